/-
  Rotations of graphs, one after another: in the order of the darts, and vertex after vertex, each comes once.
-/
import Derived.Test.YtodgongemoabiaaBase
import Derived.Test.YtodgongemoabiaaSlice
import Derived.Test.YtodgongemoabiaaInts
import Derived.Test.YtodgongemoabiaaGrid
import Derived.Test.YtodgongemoabiaaClass
import Derived.Test.YtodgongemoabiaaLab
import Derived.Test.YtodgongemoabiaaMap
import Derived.Test.YtodgongemoabiaaMapTopo
import Derived.Test.YtodgongemoabiaaGraph
import Derived.Test.YtodgongemoabiaaGraphRot
namespace Go.Proofs.Ytodgongemoabiaa
open Go.RowKit

namespace Gr
open Mp (upd behind)
theorem perm_fun {α β : Type} {f g : α → List β} : ∀ {l : List α}, (∀ a ∈ l, (f a).Perm (g a)) → (l.flatMap f).Perm (l.flatMap g)
  | [], _ => List.Perm.refl _
  | a :: l, h => by
    rw [List.flatMap_cons, List.flatMap_cons]
    exact (h a (by simp)).append (perm_fun fun b hb => h b (by simp [hb]))
theorem fun_congr {α β : Type} {f g : α → List β} : ∀ {l : List α}, (∀ a ∈ l, f a = g a) → l.flatMap f = l.flatMap g
  | [], _ => rfl
  | a :: l, h => by rw [List.flatMap_cons, List.flatMap_cons, h a (by simp), fun_congr fun b hb => h b (by simp [hb])]
theorem perm_app {α β : Type} {f g : α → List β} : ∀ {l : List α}, (l.flatMap fun x => f x ++ g x).Perm (l.flatMap f ++ l.flatMap g)
  | [] => List.Perm.refl _
  | a :: l => by
    simp only [List.flatMap_cons]
    refine ((perm_app (f := f) (g := g) (l := l)).append_left (f a ++ g a)).trans ?_
    rw [List.append_assoc, List.append_assoc]
    refine List.Perm.append_left _ ?_
    rw [← List.append_assoc, ← List.append_assoc]
    exact List.perm_append_comm.append_right _
theorem perm_swap {α β γ : Type} {g : α → β → List γ} {l' : List β} : ∀ {l : List α}, (l.flatMap fun a => l'.flatMap fun b => g a b).Perm (l'.flatMap fun b => l.flatMap fun a => g a b)
  | [] => by
    have : (l'.flatMap fun b => ([] : List α).flatMap fun a => g a b) = [] := by simp
    rw [this]; exact List.Perm.refl _
  | a :: l => by
    simp only [List.flatMap_cons]
    exact ((perm_swap (g := g) (l' := l') (l := l)).append_left _).trans perm_app.symm

/-- The darts of a list are laid behind each of those that they may lie behind. -/
def En (ls : Nat → List Nat) : List Nat → (Nat → Nat) → List (Nat → Nat)
  | [], f => [f]
  | d :: ds, f => if ls d = [] then En ls ds f else (ls d).flatMap fun b => En ls ds (behind f d b)
theorem En_append {ls : Nat → List Nat} {ys : List Nat} : ∀ {xs : List Nat} {f : Nat → Nat}, En ls (xs ++ ys) f = (En ls xs f).flatMap (En ls ys)
  | [], f => by simp [En]
  | d :: xs, f => by
    simp only [List.cons_append, En]
    split
    · exact En_append
    · rw [List.flatMap_assoc]
      congr 1
      funext b
      exact En_append
theorem behind_comm (f : Nat → Nat) {d b e c : Nat} (h1 : d ≠ e) (h2 : d ≠ c) (h3 : b ≠ e) (h4 : b ≠ c) : behind (behind f d b) e c = behind (behind f e c) d b := by
  funext k
  unfold behind upd
  by_cases k1 : k = c
  · subst k1; simp [Ne.symm h2, Ne.symm h4]
  · by_cases k2 : k = e
    · subst k2; simp [k1, Ne.symm h2, Ne.symm h4, Ne.symm h1, Ne.symm h3]
    · by_cases k3 : k = b
      · subst k3; simp [k1, k2]
      · by_cases k4 : k = d
        · subst k4; simp [k1, k2, k3, h3, h4]
        · simp [k1, k2, k3, k4]
/-- Darts lie behind darts of their own vertex alone. -/
def Own (u : Nat → Nat) (ls : Nat → List Nat) : Prop := ∀ d, ∀ b ∈ ls d, u b = u d
theorem En_swap {u : Nat → Nat} {ls : Nat → List Nat} (ho : Own u ls) {d e : Nat} (hu : u d ≠ u e) (ds : List Nat) (f : Nat → Nat) : (En ls (d :: e :: ds) f).Perm (En ls (e :: d :: ds) f) := by
  simp only [En]
  by_cases h1 : ls d = []
  · simp [h1]
  · by_cases h2 : ls e = []
    · simp [h2]
    · simp only [h1, h2, if_false]
      have : ((ls d).flatMap fun b => (ls e).flatMap fun c => En ls ds (behind (behind f d b) e c)) = (ls d).flatMap fun b => (ls e).flatMap fun c => En ls ds (behind (behind f e c) d b) := by
        refine fun_congr fun b hb => fun_congr fun c hc => ?_
        have hb' := ho d b hb
        have hc' := ho e c hc
        rw [behind_comm f (fun h => hu (by rw [h])) (fun h => hu (by rw [h, hc'])) (fun h => hu (by rw [← hb', h])) (fun h => hu (by rw [← hb', h, hc']))]
      rw [this]
      exact perm_swap
theorem En_under {ls : Nat → List Nat} {xs ys : List Nat} (h : ∀ f, (En ls xs f).Perm (En ls ys f)) (p : List Nat) (f : Nat → Nat) : (En ls (p ++ xs) f).Perm (En ls (p ++ ys) f) := by
  rw [En_append, En_append]; exact perm_fun fun g _ => h g
theorem En_past {u : Nat → Nat} {ls : Nat → List Nat} (ho : Own u ls) {d : Nat} {ds : List Nat} : ∀ {xs : List Nat}, (∀ x ∈ xs, u d ≠ u x) → ∀ f, (En ls (d :: xs ++ ds) f).Perm (En ls (xs ++ d :: ds) f)
  | [], _, f => List.Perm.refl _
  | x :: xs, h, f => (En_swap ho (h x (by simp)) (xs ++ ds) f).trans
      (En_under (p := [x]) (fun f => En_past ho (ds := ds) (xs := xs) (fun y hy => h y (by simp [hy])) f) f)
/-- Those at a vertex may come first. -/
theorem En_part {u : Nat → Nat} {ls : Nat → List Nat} (ho : Own u ls) (v : Nat) : ∀ (l : List Nat) (f : Nat → Nat), (En ls l f).Perm (En ls (l.filter (fun d => u d == v) ++ l.filter (fun d => !(u d == v))) f)
  | [], f => List.Perm.refl _
  | d :: l, f => by
    have ih := En_under (fun f => En_part ho v l f) [d] f
    by_cases h : u d = v
    · have h1 : (d :: l).filter (fun d => u d == v) = d :: l.filter (fun d => u d == v) := by simp [h]
      have h2 : (d :: l).filter (fun d => !(u d == v)) = l.filter (fun d => !(u d == v)) := by simp [h]
      rw [h1, h2]; exact ih
    · have h1 : (d :: l).filter (fun d => u d == v) = l.filter (fun d => u d == v) := by simp [h]
      have h2 : (d :: l).filter (fun d => !(u d == v)) = d :: l.filter (fun d => !(u d == v)) := by simp [h]
      rw [h1, h2]
      exact ih.trans (En_past ho (xs := l.filter fun d => u d == v) (fun x hx => by
        have hx' : u x = v := by simpa using (List.mem_filter.1 hx).2
        rw [hx']; exact h) f)
/-- The darts at the vertices from v on. -/
def from7 (u : Nat → Nat) (n v : Nat) : List Nat := (List.range n).filter fun d => decide (v ≤ u d)
theorem from7_part {u : Nat → Nat} {ls : Nat → List Nat} (ho : Own u ls) (n v : Nat) (f : Nat → Nat) : (En ls (from7 u n v) f).Perm (En ls (at7 u n v ++ from7 u n (v + 1)) f) := by
  have h := En_part ho v (from7 u n v) f
  have h1 : (from7 u n v).filter (fun d => u d == v) = at7 u n v := by
    unfold from7 at7
    rw [List.filter_filter]
    refine List.filter_congr fun d _ => ?_
    by_cases e : u d = v
    · simp [e]
    · simp [e]
  have h2 : (from7 u n v).filter (fun d => !(u d == v)) = from7 u n (v + 1) := by
    unfold from7
    rw [List.filter_filter]
    refine List.filter_congr fun d _ => ?_
    by_cases e : v + 1 ≤ u d
    · have h3 : v ≤ u d := by omega
      have h4 : ¬ u d = v := by omega
      simp [e, h3, h4]
    · by_cases h3 : u d = v
      · simp [h3]
      · have h4 : ¬ v ≤ u d := by omega
        simp [e, h3, h4]
  rwa [h1, h2] at h

/-- All orders of a list that begin with its first element, as the model makes them. -/
def put (o : List Nat) (x i : Nat) : List Nat := o.take i ++ x :: o.drop i
def places (n k : Nat) : List Nat := ((List.range (n + 1 - min 1 k)).map fun j => n - j)
def ordStep (outs : List (List Nat)) (k x : Nat) : List (List Nat) := outs.flatMap fun o => (places o.length k).map fun i => put o x i
def ordTo (l : List Nat) : Nat → List (List Nat)
  | 0 => [[]]
  | k + 1 => ordStep (ordTo l k) k (l.getD k 0)
def orders (l : List Nat) : List (List Nat) := ordTo l l.length
theorem put_perm (o : List Nat) (x i : Nat) : (put o x i).Perm (x :: o) := by
  unfold put
  refine List.perm_middle.trans ?_
  rw [List.take_append_drop]
theorem ordTo_perm (l : List Nat) : ∀ k, k ≤ l.length → ∀ o ∈ ordTo l k, o.Perm (l.take k)
  | 0, _, o, h => by
    have : o = [] := by simpa [ordTo] using h
    subst this; exact List.Perm.refl _
  | k + 1, hk, o, h => by
    unfold ordTo ordStep at h
    obtain ⟨o', h1, h2⟩ := List.mem_flatMap.1 h
    obtain ⟨i, _, rfl⟩ := List.mem_map.1 h2
    have h3 := ordTo_perm l k (by omega) o' h1
    refine (put_perm _ _ _).trans ?_
    rw [List.take_succ_eq_append_getElem (show k < l.length by omega)]
    have e : l.getD k 0 = l[k] := by rw [List.getD_eq_getElem?_getD, List.getElem?_eq_getElem (show k < l.length by omega)]; rfl
    rw [e]
    exact (List.Perm.cons _ h3).trans (List.perm_append_comm (l₁ := [l[k]]))
theorem orders_perm {l o : List Nat} (h : o ∈ orders l) : o.Perm l := by
  have := ordTo_perm l l.length (Nat.le_refl _) o h
  rwa [List.take_of_length_le (Nat.le_refl _)] at this
theorem places_one {n : Nat} {k : Nat} (hk : 0 < k) : places n k = ((List.range n).map fun j => n - j) := by
  unfold places
  rw [show min 1 k = 1 by omega, Nat.add_sub_cancel]
theorem range_rev (n : Nat) : ((List.range n).map fun j => n - j) = ((List.range n).map fun j => j + 1).reverse := by
  apply List.ext_getElem
  · simp
  · intro i h1 h2
    simp only [List.length_map, List.length_range] at h1
    simp only [List.getElem_map, List.getElem_range, List.getElem_reverse, List.length_map, List.length_range]
    omega
theorem map_getD {β : Type} (F : Nat → β) (o : List Nat) : ((List.range o.length).map fun j => F (o.getD j 0)) = o.map F := by
  apply List.ext_getElem
  · simp
  · intro i h1 h2
    simp only [List.length_map, List.length_range] at h1
    simp [List.getD_eq_getElem?_getD, h1]
theorem put_at {o : List Nat} {j : Nat} (hj : j < o.length) (x : Nat) : o = o.take j ++ o.getD j 0 :: o.drop (j + 1) ∧ put o x (j + 1) = o.take j ++ o.getD j 0 :: x :: o.drop (j + 1) := by
  have e : o.getD j 0 = o[j] := by rw [List.getD_eq_getElem?_getD, List.getElem?_eq_getElem hj]; rfl
  rw [e]
  constructor
  · rw [← List.drop_eq_getElem_cons hj, List.take_append_drop]
  · unfold put
    rw [List.take_succ_eq_append_getElem hj, List.append_assoc]; rfl
/-- The orders of the darts of a vertex are its rings. -/
theorem En_orders {u : Nat → Nat} {n v : Nat} {f : Nat → Nat} (hf : ∀ d, u d = v → f d = d) : ∀ i, i ≤ n → (En (fun d => at7 u d (u d)) (at7 u i v) f).Perm ((orders (at7 u i v)).map (ringF f)) ∧ ∀ o ∈ orders (at7 u i v), Ring (ringF f o) o
  | 0, _ => by
    refine ⟨?_, fun o ho => ?_⟩
    · show ([f] : List (Nat → Nat)).Perm [ringF f []]
      exact List.Perm.refl _
    · have : o = [] := by simpa [orders, ordTo, at7_zero] using ho
      subst this; trivial
  | i + 1, hi => by
    obtain ⟨ih, ihr⟩ := En_orders hf (u := u) (n := n) i (by omega)
    by_cases hv : u i = v
    · have hat := at7_yes hv
      have hlen : (at7 u (i + 1) v).length = (at7 u i v).length + 1 := by rw [hat]; simp
      have hor : orders (at7 u (i + 1) v) = ordStep (orders (at7 u i v)) (at7 u i v).length i := by
        unfold orders
        rw [hlen]
        show ordStep _ _ _ = _
        have e1 : (at7 u (i + 1) v).getD (at7 u i v).length 0 = i := by rw [hat, List.getD_eq_getElem?_getD]; simp
        rw [e1]
        congr 1
        have : ∀ k, k ≤ (at7 u i v).length → ordTo (at7 u (i + 1) v) k = ordTo (at7 u i v) k := by
          intro k
          induction k with
          | zero => intro _; rfl
          | succ k ihk =>
            intro hk
            show ordStep _ _ _ = ordStep _ _ _
            rw [ihk (by omega), hat, List.getD_eq_getElem?_getD, List.getD_eq_getElem?_getD, List.getElem?_append_left (by omega)]
        exact this _ (Nat.le_refl _)
      have hring : ∀ o ∈ orders (at7 u i v), ∀ j, j < o.length → Ring (behind (ringF f o) i (o.getD j 0)) (put o i (j + 1)) ∧ behind (ringF f o) i (o.getD j 0) = ringF f (put o i (j + 1)) := by
        intro o ho j hj
        have hp := orders_perm ho
        have hno : o.Nodup := hp.nodup_iff.2 (at7_nodup _ _ _)
        have hio : i ∉ o := fun h => by have := (at7_mem.1 (hp.mem_iff.1 h)).1; omega
        obtain ⟨e1, e2⟩ := put_at hj i
        have hR := ihr o ho
        have h1 : Ring (behind (ringF f o) i (o.getD j 0)) (put o i (j + 1)) := by
          rw [e2]
          exact Ring.insert (by rw [← e1]; exact hR) (by rw [← e1]; exact hno) (by rw [← e1]; exact hio)
        refine ⟨h1, (ringF_of ((put_perm _ _ _).nodup_iff.2 (List.nodup_cons.2 ⟨hio, hno⟩)) h1 fun d hd => ?_).symm⟩
        have hd' : d ≠ i ∧ d ∉ o := by
          constructor
          · rintro rfl; exact hd ((put_perm _ _ _).mem_iff.2 (by simp))
          · intro h; exact hd ((put_perm _ _ _).mem_iff.2 (by simp [h]))
        unfold behind upd
        rw [if_neg (fun h => hd'.2 (by rw [h]; exact getD_mem hj)), if_neg hd'.1]
        exact ringF_out hd'.2
      rw [hor]
      constructor
      · rw [hat, En_append]
        refine (List.Perm.flatMap_right _ ih).trans ?_
        unfold ordStep
        rw [List.map_flatMap, List.flatMap_map]
        refine perm_fun fun o ho => ?_
        have hp := orders_perm ho
        have hls : at7 u i (u i) = at7 u i v := by rw [hv]
        rw [List.map_map]
        by_cases h0 : at7 u i v = []
        · have ho0 : o = [] := by rw [h0] at hp; exact hp.eq_nil
          subst ho0
          have e1 : En (fun d => at7 u d (u d)) [i] (ringF f []) = [f] := by
            simp only [En]
            rw [if_pos (hls.trans h0)]; rfl
          rw [e1, h0]
          have e2 : ringF f [i] = f := ringF_of (by simp) (Ring.one (hf i hv)) fun _ _ => rfl
          show [f].Perm [ringF f [i]]
          rw [e2]
        · have e1 : En (fun d => at7 u d (u d)) [i] (ringF f o) = (at7 u i v).map fun b => behind (ringF f o) i b := by
            simp only [En]
            rw [if_neg (fun h => h0 (hls.symm.trans h)), List.map_eq_flatMap]
            show (at7 u i (u i)).flatMap _ = _
            rw [hls]
          rw [e1]
          have hl0 : 0 < (at7 u i v).length := List.length_pos_iff.2 h0
          rw [places_one hl0, range_rev, List.map_reverse, List.map_map]
          refine (hp.symm.map _).trans ?_
          refine List.Perm.trans ?_ (List.reverse_perm _).symm
          have e3 : ((List.range o.length).map ((ringF f ∘ fun j => put o i j) ∘ fun j => j + 1)) = o.map fun b => behind (ringF f o) i b := by
            rw [← map_getD (fun b => behind (ringF f o) i b)]
            refine List.map_congr_left fun j hj => ?_
            exact ((hring o ho j (List.mem_range.1 hj)).2).symm
          rw [e3]
      · intro o' ho'
        unfold ordStep at ho'
        obtain ⟨o, ho, h2⟩ := List.mem_flatMap.1 ho'
        obtain ⟨q, hq, rfl⟩ := List.mem_map.1 h2
        have hp := orders_perm ho
        by_cases h0 : at7 u i v = []
        · have ho0 : o = [] := by rw [h0] at hp; exact hp.eq_nil
          subst ho0
          rw [h0] at hq
          have : put [] i q = [i] := by unfold put; simp
          rw [this]
          have e2 : ringF f [i] = f := ringF_of (by simp) (Ring.one (hf i hv)) fun _ _ => rfl
          rw [e2]; exact Ring.one (hf i hv)
        · have hl0 : 0 < (at7 u i v).length := List.length_pos_iff.2 h0
          rw [places_one hl0] at hq
          obtain ⟨j, hj, rfl⟩ := List.mem_map.1 hq
          have hj := List.mem_range.1 hj
          obtain ⟨h3, h4⟩ := hring o ho (o.length - j - 1) (by omega)
          have e : o.length - j - 1 + 1 = o.length - j := by omega
          rw [e] at h3 h4
          rw [← h4]; exact h3
    · rw [at7_no hv]; exact ⟨ih, ihr⟩

/-- The program's rotations, and the model's, vertex after vertex. -/
def byDart (u : Nat → Nat) (d k : Nat) (f : Nat → Nat) : List (Nat → Nat) := En (fun d => at7 u d (u d)) (List.range' d k) f
def byVertex (u : Nat → Nat) (n : Nat) : Nat → Nat → (Nat → Nat) → List (Nat → Nat)
  | 0, _, m => [m]
  | k + 1, v, m => (orders (at7 u n v)).flatMap fun o => byVertex u n k (v + 1) (ringF m o)
theorem own_at7 (u : Nat → Nat) : Own u fun d => at7 u d (u d) := fun _ _ hb => (at7_mem.1 hb).2
theorem byVertex_En {u : Nat → Nat} {n : Nat} {G : (Nat → Nat) → Nat} (hG : ∀ f g, (∀ d, d < n → f d = g d) → G f = G g) : ∀ (k v : Nat) (m f : Nat → Nat), (∀ d, d < n → u d < v + k) → (∀ d, d < n → u d < v → m d = f d) → (∀ d, v ≤ u d → f d = d) →
    ((byVertex u n k v m).map G).Perm ((En (fun d => at7 u d (u d)) (from7 u n v) f).map G)
  | 0, v, m, f, hu, hm, _ => by
    have h0 : from7 u n v = [] := by
      unfold from7
      rw [List.filter_eq_nil_iff]
      intro d hd
      have := hu d (List.mem_range.1 hd)
      simp only [decide_eq_true_eq]; omega
    rw [h0]
    show [G m].Perm [G f]
    rw [hG m f fun d hd => hm d hd (by have := hu d hd; omega)]
  | k + 1, v, m, f, hu, hm, hf => by
    have h1 := (from7_part (own_at7 u) n v f).map G
    rw [En_append] at h1
    refine List.Perm.trans ?_ h1.symm
    have h2 := (En_orders (u := u) (n := n) (v := v) (f := f) (fun d hd => hf d (by omega)) n (Nat.le_refl _)).1
    refine List.Perm.trans ?_ ((List.Perm.flatMap_right _ h2).map G).symm
    rw [List.flatMap_map]
    show (((orders (at7 u n v)).flatMap fun o => byVertex u n k (v + 1) (ringF m o)).map G).Perm _
    rw [List.map_flatMap, List.map_flatMap]
    refine perm_fun fun o ho => ?_
    have hp := orders_perm ho
    have hno : o.Nodup := hp.nodup_iff.2 (at7_nodup _ _ _)
    refine byVertex_En hG k (v + 1) _ _ (fun d hd => by have := hu d hd; omega) (fun d hd hdv => ?_) (fun d hd => ?_)
    · by_cases e : d ∈ o
      · exact ringF_in hno e
      · rw [ringF_out e, ringF_out e]
        refine hm d hd ?_
        rcases Nat.lt_or_ge (u d) v with h | h
        · exact h
        · exact absurd (hp.mem_iff.2 (at7_mem.2 ⟨hd, by omega⟩)) e
    · have e : d ∉ o := fun h => by have := (at7_mem.1 (hp.mem_iff.1 h)).2; omega
      rw [ringF_out e]; exact hf d (by omega)
theorem same_rotations {u : Nat → Nat} {n : Nat} {G : (Nat → Nat) → Nat} (hG : ∀ f g, (∀ d, d < n → f d = g d) → G f = G g) (hu : ∀ d, d < n → u d < 7) (m : Nat → Nat) : ((byVertex u n 7 0 m).map G).Perm ((byDart u 0 n id).map G) := by
  have h := byVertex_En hG 7 0 m id (fun d hd => by have := hu d hd; omega) (fun d _ h => by omega) (fun _ _ => rfl)
  have e : from7 u n 0 = List.range' 0 n := by
    unfold from7
    rw [← List.range_eq_range', List.filter_eq_self]
    simp
  rw [e] at h
  exact h

/-- One more of the number k is counted. -/
def count (row : List Nat) (k : Nat) : List Nat := (row ++ List.replicate (k + 1 - row.length) 0).set k ((row ++ List.replicate (k + 1 - row.length) 0).getD k 0 + 1)
def most (gs : List Nat) : Nat := gs.foldl (fun m g => max m (g + 1)) 0
def hist (gs : List Nat) : List Nat := (List.range (most gs)).map fun k => gs.count k
theorem most_snoc (gs : List Nat) (g : Nat) : most (gs ++ [g]) = max (most gs) (g + 1) := by simp [most]
theorem most_le (gs : List Nat) : ∀ g ∈ gs, g + 1 ≤ most gs := by
  have key : ∀ (gs : List Nat) (m : Nat), m ≤ gs.foldl (fun m g => max m (g + 1)) m ∧ ∀ g ∈ gs, g + 1 ≤ gs.foldl (fun m g => max m (g + 1)) m := by
    intro gs
    induction gs with
    | nil => intro m; exact ⟨Nat.le_refl _, fun _ h => by cases h⟩
    | cons a gs ih =>
      intro m
      obtain ⟨h1, h2⟩ := ih (max m (a + 1))
      simp only [List.foldl_cons]
      refine ⟨by omega, fun g hg => ?_⟩
      rcases List.mem_cons.1 hg with rfl | hg
      · omega
      · exact h2 g hg
  exact (key gs 0).2
theorem most_lt {gs : List Nat} {B : Nat} (h : ∀ g ∈ gs, g + 1 ≤ B) : most gs ≤ B := by
  have key : ∀ (gs : List Nat) (m : Nat), (∀ g ∈ gs, g + 1 ≤ B) → m ≤ B → gs.foldl (fun m g => max m (g + 1)) m ≤ B := by
    intro gs
    induction gs with
    | nil => intro m _ h; exact h
    | cons a gs ih =>
      intro m h1 h2
      exact ih _ (fun g hg => h1 g (by simp [hg])) (Nat.max_le.2 ⟨h2, h1 a (by simp)⟩)
  exact key gs 0 h (by omega)
theorem most_perm {gs hs : List Nat} (h : gs.Perm hs) : most gs = most hs := by
  refine Nat.le_antisymm (most_lt fun g hg => most_le hs g (h.mem_iff.1 hg)) (most_lt fun g hg => most_le gs g (h.mem_iff.2 hg))
theorem hist_perm {gs hs : List Nat} (h : gs.Perm hs) : hist gs = hist hs := by
  unfold hist
  rw [most_perm h]
  exact List.map_congr_left fun k _ => h.count_eq k
theorem hist_snoc (gs : List Nat) (g : Nat) : hist (gs ++ [g]) = count (hist gs) g := by
  have hl : (hist gs).length = most gs := by simp [hist]
  have hpad : (hist gs ++ List.replicate (g + 1 - (hist gs).length) 0) = (List.range (max (most gs) (g + 1))).map fun k => gs.count k := by
    apply List.ext_getElem
    · simp [hl]; omega
    · intro i h1 h2
      simp only [List.length_map, List.length_range] at h2
      by_cases hi : i < most gs
      · rw [List.getElem_append_left (by rw [hl]; exact hi)]
        simp [hist]
      · rw [List.getElem_append_right (by rw [hl]; omega)]
        simp only [List.getElem_replicate, List.getElem_map, List.getElem_range]
        rw [List.count_eq_zero.2]
        intro hm
        have := most_le gs i hm
        omega
  unfold count
  rw [hpad]
  unfold hist
  rw [most_snoc]
  apply List.ext_getElem
  · simp
  · intro i h1 h2
    simp only [List.length_map, List.length_range] at h1
    rw [List.getElem_set]
    by_cases e : g = i
    · subst e
      rw [if_pos rfl, List.getD_eq_getElem?_getD, List.getElem?_map, List.getElem?_range (by omega)]
      simp
    · rw [if_neg e]
      simp [List.count_append, e]
theorem hist_len (gs : List Nat) : (hist gs).length = most gs := by simp [hist]
theorem hist_le (gs : List Nat) : ∀ x ∈ hist gs, x ≤ gs.length := by
  intro x hx
  obtain ⟨k, _, rfl⟩ := List.mem_map.1 hx
  exact List.count_le_length
theorem En_len {ls : Nat → List Nat} (h : ∀ d, (ls d).length ≤ d) : ∀ (k d : Nat) (f : Nat → Nat), (En ls (List.range' d k) f).length * fac d ≤ fac (d + k)
  | 0, d, f => by simp [En]
  | k + 1, d, f => by
    rw [List.range'_succ]
    simp only [En]
    have ih := fun f => En_len h k (d + 1) f
    rw [show d + 1 + k = d + (k + 1) by omega] at ih
    split
    · refine Nat.le_trans (Nat.mul_le_mul (Nat.le_refl _) (fac_mono (show d ≤ d + 1 by omega))) (ih f)
    · rw [List.length_flatMap]
      have : ∀ (l : List Nat), ((l.map fun b => (En ls (List.range' (d + 1) k) (behind f d b)).length).sum) * fac (d + 1) ≤ l.length * fac (d + (k + 1)) := by
        intro l
        induction l with
        | nil => simp
        | cons b l ihl =>
          simp only [List.map_cons, List.sum_cons, List.length_cons]
          rw [Nat.add_mul, Nat.add_mul, Nat.one_mul]
          have := ih (behind f d b)
          omega
      have h1 := this (ls d)
      have h2 : (ls d).length * fac (d + (k + 1)) ≤ (d + 1) * fac (d + (k + 1)) := Nat.mul_le_mul (by have := h d; omega) (Nat.le_refl _)
      have h3 := Nat.le_trans h1 h2
      rw [show fac (d + 1) = fac d * (d + 1) from rfl, ← Nat.mul_assoc, Nat.mul_comm (d + 1)] at h3
      exact Nat.le_of_mul_le_mul_right h3 (by omega)
end Gr
end Go.Proofs.Ytodgongemoabiaa
