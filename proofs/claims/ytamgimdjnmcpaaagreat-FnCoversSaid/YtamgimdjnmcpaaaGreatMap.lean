/-
  Maps, as functions of lists: what the document's chapter on maps says of them.
-/
import Derived.Test.YtamgimdjnmcpaaaGreatBase
import Derived.Test.YtamgimdjnmcpaaaGreatSlice
import Derived.Test.YtamgimdjnmcpaaaGreatInts
import Derived.Test.YtamgimdjnmcpaaaGreatGrid
import Derived.Test.YtamgimdjnmcpaaaGreatClass
import Derived.Test.YtamgimdjnmcpaaaGreatTri
namespace Go.Proofs.YtamgimdjnmcpaaaGreat
open Go.RowKit

namespace Mp
/-- Each number less than the length, once. -/
def IsP (l : List Int) : Prop := (∀ x ∈ l, 0 ≤ x ∧ x < (l.length : Int)) ∧ l.Nodup
instance (l : List Int) : Decidable (IsP l) := by unfold IsP; exact inferInstance
def IsM (l : List Int) : Prop := 2 ≤ l.length ∧ l.length ≤ 24 ∧ l.length % 2 = 0 ∧ IsP l
instance (l : List Int) : Decidable (IsM l) := by unfold IsM; exact inferInstance
theorem isP_far {l : List Int} {i : Nat} {x : Int} (h : l[i]? = some x) (hx : ¬ (0 ≤ x ∧ x < (l.length : Int))) : ¬ IsP l := fun hp => hx (hp.1 x (get_mem h))
theorem isP_twice {l : List Int} {i : Nat} {x : Int} (h : l[i]? = some x) (hx : x ∈ l.take i) : ¬ IsP l := by
  rintro ⟨_, hn⟩
  obtain ⟨hi, e⟩ := List.getElem?_eq_some_iff.1 h
  have := List.nodup_append.1 (show (l.take i ++ l.drop i).Nodup by rw [List.take_append_drop]; exact hn)
  exact this.2.2 x hx x (by rw [List.drop_eq_getElem_cons hi, e]; exact List.mem_cons_self ..) rfl
/-- Where each number up to i is less than n and new. -/
def To (l : List Int) (i : Nat) : Prop := (∀ x ∈ l.take i, 0 ≤ x ∧ x < (l.length : Int)) ∧ (l.take i).Nodup
theorem To.zero (l : List Int) : To l 0 := ⟨by simp, by simp⟩
theorem To.step {l : List Int} {i : Nat} {x : Int} (h : To l i) (hx : l[i]? = some x) (h0 : 0 ≤ x ∧ x < (l.length : Int)) (hn : x ∉ l.take i) : To l (i + 1) := by
  obtain ⟨hi, rfl⟩ := List.getElem?_eq_some_iff.1 hx
  unfold To
  rw [List.take_succ_eq_append_getElem hi]
  refine ⟨fun y hy => ?_, ?_⟩
  · rcases List.mem_append.1 hy with hy | hy
    · exact h.1 y hy
    · rw [List.mem_singleton.1 hy]; exact h0
  · rw [List.nodup_append]
    refine ⟨h.2, by simp, fun a ha b hb => ?_⟩
    rw [List.mem_singleton.1 hb]
    rintro rfl; exact hn ha
theorem To.all {l : List Int} (h : To l l.length) : IsP l := by
  unfold To at h
  rw [List.take_of_length_le (Nat.le_refl _)] at h
  exact h
theorem take_mem {l : List Int} {i : Nat} {x y : Int} (h : l[i]? = some x) : y ∈ l.take (i + 1) ↔ (y ∈ l.take i ∨ y = x) := by
  obtain ⟨hi, rfl⟩ := List.getElem?_eq_some_iff.1 h
  rw [List.take_succ_eq_append_getElem hi, List.mem_append, List.mem_singleton]

/-- The dart that follows. -/
def at_ (l : List Int) (d : Nat) : Nat := (l.getD d 0).toNat
theorem at_get {l : List Int} (h : IsP l) {d : Nat} (hd : d < l.length) : l[d]? = some ((at_ l d : Nat) : Int) := by
  have := h.1 _ (List.getElem_mem hd)
  unfold at_
  rw [List.getD_eq_getElem?_getD, List.getElem?_eq_getElem hd]
  simp only [Option.getD_some]
  congr 1; omega
theorem at_lt {l : List Int} (h : IsP l) {d : Nat} (hd : d < l.length) : at_ l d < l.length := by
  have := h.1 _ (get_mem (at_get h hd)); omega
theorem at_inj {l : List Int} (h : IsP l) {d e : Nat} (hd : d < l.length) (he : e < l.length) (hh : at_ l d = at_ l e) : d = e := by
  have h1 := at_get h hd
  have h2 := at_get h he
  rw [List.getElem?_eq_getElem hd] at h1
  rw [List.getElem?_eq_getElem he, ← hh] at h2
  have h3 : l[d] = l[e] := by rw [Option.some.inj h1, Option.some.inj h2]
  have hp := List.pairwise_iff_getElem.1 (List.nodup_iff_pairwise_ne.1 h.2)
  rcases Nat.lt_trichotomy d e with h4 | h4 | h4
  · exact absurd h3 (hp d e hd he h4)
  · exact h4
  · exact absurd h3.symm (hp e d he hd h4)
theorem at_row {l : List Int} (h : IsP l) : Cls.row (at_ l) l.length = l := by
  apply List.ext_getElem?
  intro k
  by_cases hk : k < l.length
  · rw [Cls.row_get hk, at_get h hk]
  · rw [List.getElem?_eq_none (by rw [Cls.row_len]; omega), List.getElem?_eq_none (by omega)]
theorem isP_row {f : Nat → Nat} {n : Nat} (h1 : ∀ d, d < n → f d < n) (h2 : ∀ d e, d < n → e < n → f d = f e → d = e) : IsP (Cls.row f n) := by
  refine ⟨fun x hx => ?_, ?_⟩
  · unfold Cls.row at hx
    obtain ⟨k, hk, rfl⟩ := List.mem_map.1 hx
    have := h1 k (List.mem_range.1 hk)
    rw [Cls.row_len]; omega
  · unfold Cls.row
    rw [List.nodup_iff_pairwise_ne, List.pairwise_map, List.pairwise_iff_getElem]
    intro i j hi hj hij
    simp only [List.length_range] at hi hj
    simp only [List.getElem_range]
    intro e
    have := h2 i j hi hj (by omega)
    omega
theorem at_of_row {f : Nat → Nat} {n d : Nat} (hd : d < n) : at_ (Cls.row f n) d = f d := by
  unfold at_; rw [Cls.row_getD hd]; simp

/-- The other dart of an edge. -/
def mate (d : Nat) : Nat := if d % 2 = 0 then d + 1 else d - 1
theorem mate_mate (d : Nat) : mate (mate d) = d := by unfold mate; split <;> split <;> omega
theorem mate_lt {n d : Nat} (hn : n % 2 = 0) (hd : d < n) : mate d < n := by unfold mate; split <;> omega
theorem mate_half (d : Nat) : mate d / 2 = d / 2 := by unfold mate; split <;> omega
theorem mate_inj {d e : Nat} (h : mate d = mate e) : d = e := by have := congrArg mate h; rwa [mate_mate, mate_mate] at this

def dualF (l : List Int) (d : Nat) : Nat := at_ l (mate d)
def dual (l : List Int) : List Int := Cls.row (dualF l) l.length
def dualOf (l : List Int) : List Int := if IsM l then dual l else []
theorem dual_len (l : List Int) : (dual l).length = l.length := Cls.row_len _ _
theorem dual_isM {l : List Int} (h : IsM l) : IsM (dual l) := by
  obtain ⟨h1, h2, h3, h4⟩ := h
  refine ⟨by rw [dual_len]; exact h1, by rw [dual_len]; exact h2, by rw [dual_len]; exact h3, isP_row (fun d hd => at_lt h4 (mate_lt h3 hd)) (fun d e hd he hh => mate_inj (at_inj h4 (mate_lt h3 hd) (mate_lt h3 he) hh))⟩
theorem dualOf_len (l : List Int) : (dualOf l).length ≤ 24 := by
  unfold dualOf; split
  · rename_i h; rw [dual_len]; exact h.2.1
  · simp

/-- The inverse permutation, out of the first i darts. -/
def invTo (l : List Int) : Nat → Nat → Nat
  | 0 => fun _ => 0
  | i + 1 => fun x => if x = at_ l i then i else invTo l i x
def mirror (l : List Int) : List Int := Cls.row (invTo l l.length) l.length
def mirrorOf (l : List Int) : List Int := if IsM l then mirror l else []
theorem mirror_len (l : List Int) : (mirror l).length = l.length := Cls.row_len _ _
theorem mirrorOf_len (l : List Int) : (mirrorOf l).length ≤ 24 := by
  unfold mirrorOf; split
  · rename_i h; rw [mirror_len]; exact h.2.1
  · simp
theorem invTo_at {l : List Int} (h : IsP l) {i d : Nat} (hi : i ≤ l.length) (hd : d < i) : invTo l i (at_ l d) = d := by
  induction i with
  | zero => omega
  | succ i ih =>
    unfold invTo
    by_cases e : at_ l d = at_ l i
    · simp only [e, if_true]
      exact (at_inj h (by omega) (by omega) e).symm
    · simp only [e, if_false]
      refine ih (by omega) ?_
      rcases Nat.lt_or_ge d i with h2 | h2
      · exact h2
      · obtain rfl : d = i := by omega
        exact absurd rfl e

/-- The darts of a cycle, from d on, until one that was seen. -/
def cyc (f : Nat → Nat) : Nat → (Nat → Bool) → Nat → List Nat
  | 0, _, _ => []
  | k + 1, s, d => if s d then [] else d :: cyc f k (fun x => x == d || s x) (f d)
/-- What was seen, and the cycles. -/
def seen (s : Nat → Bool) (c : List Nat) : Nat → Bool := fun x => decide (x ∈ c) || s x
def cycStep (f : Nat → Nat) (n : Nat) (st : (Nat → Bool) × List (List Nat)) (k : Nat) : (Nat → Bool) × List (List Nat) :=
  if cyc f (n + 1) st.1 k = [] then st else (seen st.1 (cyc f (n + 1) st.1 k), st.2 ++ [cyc f (n + 1) st.1 k])
def cycTo (f : Nat → Nat) (n i : Nat) : (Nat → Bool) × List (List Nat) := (List.range i).foldl (cycStep f n) (fun _ => false, [])
theorem cycTo_zero (f : Nat → Nat) (n : Nat) : cycTo f n 0 = (fun _ => false, []) := rfl
theorem cycTo_succ (f : Nat → Nat) (n i : Nat) : cycTo f n (i + 1) = cycStep f n (cycTo f n i) i := by
  unfold cycTo; rw [List.range_succ, List.foldl_append]; rfl
def natRows (C : List (List Nat)) : List (List Int) := C.map fun c => c.map fun d => ((d : Nat) : Int)
def cycs (l : List Int) : List (List Nat) := (cycTo (at_ l) l.length l.length).2
def cycles (l : List Int) : List (List Int) := natRows (cycs l)
def cyclesOf (l : List Int) : List (List Int) := if IsM l then cycles l else []
def facesOf (l : List Int) : List (List Int) := if IsM l then cycles (dual l) else []

/-- A state of the inner loop: c was walked, from d on there is left cyc f k s' d. -/
structure Mid (f : Nat → Nat) (n : Nat) (s : Nat → Bool) (first : Nat) (c : List Nat) (d : Nat) : Prop where
  nodup : c.Nodup
  lt : ∀ x ∈ c, x < n
  new : ∀ x ∈ c, s x = false
  dlt : d < n
  whole : ∃ k, c.length + k = n + 1 ∧ cyc f (n + 1) s first = c ++ cyc f k (seen s c) d
theorem seen_snoc (s : Nat → Bool) (c : List Nat) (d : Nat) : seen s (c ++ [d]) = fun x => x == d || seen s c x := by
  funext x
  unfold seen
  by_cases h : x = d <;> by_cases h2 : x ∈ c <;> simp [h, h2]
theorem seen_nil (s : Nat → Bool) : seen s [] = s := by funext x; simp [seen]
theorem nodup_len : ∀ {n : Nat} {c : List Nat}, c.Nodup → (∀ x ∈ c, x < n) → c.length ≤ n
  | 0, c, _, hl => by
    cases c with
    | nil => exact Nat.le_refl _
    | cons x t => have := hl x (List.mem_cons_self ..); omega
  | n + 1, c, h, hl => by
    have := nodup_len (n := n) (c := c.erase n) (h.erase n) (fun x hx => by
      have h1 := (List.Nodup.mem_erase_iff h).1 hx
      have := hl x h1.2; omega)
    rw [List.length_erase] at this
    split at this <;> omega
theorem nodup_perm {n : Nat} {c : List Nat} (h : c.Nodup) (hl : ∀ x ∈ c, x < n) (hn : n ≤ c.length) : c.Perm (List.range n) := by
  refine (List.perm_ext_iff_of_nodup h List.nodup_range).2 fun k => ?_
  rw [List.mem_range]
  refine ⟨hl k, fun hk => Classical.byContradiction fun hno => ?_⟩
  have := nodup_len (n := n) (c := k :: c) (List.nodup_cons.2 ⟨hno, h⟩) (fun x hx => by
    rcases List.mem_cons.1 hx with rfl | hx
    · exact hk
    · exact hl x hx)
  simp at this; omega
theorem Mid.start (f : Nat → Nat) {n : Nat} (s : Nat → Bool) {first : Nat} (h : first < n) : Mid f n s first [] first :=
  ⟨List.nodup_nil, fun _ h => (by cases h), fun _ h => (by cases h), h, n + 1, by simp, by rw [seen_nil]; rfl⟩
theorem Mid.len {f : Nat → Nat} {n : Nat} {s : Nat → Bool} {first : Nat} {c : List Nat} {d : Nat} (h : Mid f n s first c d) : c.length ≤ n := nodup_len h.nodup h.lt
theorem Mid.step {f : Nat → Nat} {n : Nat} {s : Nat → Bool} {first : Nat} {c : List Nat} {d : Nat} (h : Mid f n s first c d) (hd : seen s c d = false) (hf : f d < n) : Mid f n s first (c ++ [d]) (f d) := by
  have hl := h.len
  obtain ⟨h1, h2, h3, h4, k, hk, hw⟩ := h
  have hd2 : d ∉ c ∧ s d = false := by unfold seen at hd; simpa using hd
  refine ⟨?_, fun x hx => ?_, fun x hx => ?_, hf, k - 1, by simp; omega, ?_⟩
  · rw [List.nodup_append]
    refine ⟨h1, by simp, fun a ha b hb => ?_⟩
    rw [List.mem_singleton.1 hb]; rintro rfl; exact hd2.1 ha
  · rcases List.mem_append.1 hx with hx | hx
    · exact h2 x hx
    · rw [List.mem_singleton.1 hx]; exact h4
  · rcases List.mem_append.1 hx with hx | hx
    · exact h3 x hx
    · rw [List.mem_singleton.1 hx]; exact hd2.2
  · obtain ⟨j, rfl⟩ : ∃ j, k = j + 1 := ⟨k - 1, by omega⟩
    rw [hw, seen_snoc]
    conv => lhs; unfold cyc
    rw [hd]
    simp
theorem Mid.stop {f : Nat → Nat} {n : Nat} {s : Nat → Bool} {first : Nat} {c : List Nat} {d : Nat} (h : Mid f n s first c d) (hd : seen s c d = true) : cyc f (n + 1) s first = c := by
  obtain ⟨_, _, _, _, k, hk, hw⟩ := h
  rw [hw]
  cases k with
  | zero => simp [cyc]
  | succ k => unfold cyc; rw [hd]; simp

/-- Connected parts. -/
def pair1 (l : List Int) (d : Nat) : List (Nat × Nat) := [(d, at_ l d), (d, mate d)]
def pairsTo (l : List Int) (i : Nat) : List (Nat × Nat) := (List.range i).flatMap (pair1 l)
theorem pairsTo_succ (l : List Int) (i : Nat) : pairsTo l (i + 1) = pairsTo l i ++ [(i, at_ l i)] ++ [(i, mate i)] := by
  unfold pairsTo; rw [List.range_succ, List.flatMap_append]; simp [pair1]
def ring (l : List Int) : Nat → Nat := Cls.mergeAll (pairsTo l l.length)
def parts (l : List Int) : Nat := Cls.tally (ring l) (List.range l.length)
def partsOf (l : List Int) : Int := if IsM l then (parts l : Int) else -1
theorem pairsTo_lt {l : List Int} (h : IsM l) {i : Nat} (hi : i ≤ l.length) : ∀ p ∈ pairsTo l i, p.1 < l.length ∧ p.2 < l.length := by
  intro p hp
  unfold pairsTo at hp
  obtain ⟨d, hd, hp⟩ := List.mem_flatMap.1 hp
  have hd' : d < l.length := by have := List.mem_range.1 hd; omega
  simp only [pair1, List.mem_cons, List.not_mem_nil, or_false] at hp
  rcases hp with rfl | rfl
  · exact ⟨hd', at_lt h.2.2.2 hd'⟩
  · exact ⟨hd', mate_lt h.2.2.1 hd'⟩
theorem ring_ok {l : List Int} (h : IsM l) : Cls.Ok (ring l) l.length := Cls.Ok.all (pairsTo_lt h (Nat.le_refl _))
def natsOf (l : List Int) : List Nat := l.map Int.toNat
theorem natsOf_row {l : List Int} (h : IsP l) : (natsOf l).map (fun k => ((k : Nat) : Int)) = l := by
  unfold natsOf
  rw [List.map_map]
  conv => rhs; rw [← List.map_id l]
  apply List.map_congr_left
  intro x hx
  have := h.1 x hx
  simp; omega
/-- A permutation has all darts as its members. -/
theorem parts_found {l : List Int} (h : IsM l) : parts l = (Cls.found (ring l) (natsOf l)).length := by
  unfold parts
  rw [Cls.tally_range (ring_ok h)]
  refine Cls.found_same fun x => ?_
  have hp := h.2.2.2
  constructor
  · rintro ⟨m, hm, rfl⟩
    -- every dart below n is a member
    have hm := List.mem_range.1 hm
    have hsub : (natsOf l).Perm (List.range l.length) := by
      have hnd : (natsOf l).Nodup := by
        have := hp.2
        rw [← natsOf_row hp, List.nodup_iff_pairwise_ne, List.pairwise_map] at this
        rw [List.nodup_iff_pairwise_ne]
        exact this.imp fun h e => h (by rw [e])
      refine nodup_perm hnd (fun y hy => ?_) (by simp [natsOf])
      obtain ⟨x, hx, rfl⟩ := List.mem_map.1 hy
      have := hp.1 x hx
      omega
    exact ⟨m, hsub.mem_iff.2 (List.mem_range.2 hm), rfl⟩
  · rintro ⟨m, hm, rfl⟩
    obtain ⟨x, hx, rfl⟩ := List.mem_map.1 hm
    have := hp.1 x hx
    exact ⟨_, List.mem_range.2 (by omega), rfl⟩
def genus (l : List Int) : Int := (parts l : Int) - (((cycs l).length : Int) - ((l.length / 2 : Nat) : Int) + ((cycs (dual l)).length : Int)).tdiv 2
def genusOf (l : List Int) : Int := if IsM l then genus l else -1

/-- The edge of two darts is left out. -/
def Edge (l : List Int) (e : Int) : Prop := IsM l ∧ 0 ≤ e ∧ e < ((l.length / 2 : Nat) : Int)
instance (l : List Int) (e : Int) : Decidable (Edge l e) := by unfold Edge; exact inferInstance
def DropOk (l : List Int) (e : Int) : Prop := Edge l e ∧ l.length ≠ 2
instance (l : List Int) (e : Int) : Decidable (DropOk l e) := by unfold DropOk; exact inferInstance
def skip (l : List Int) (e x : Nat) : Nat := if x / 2 = e then (if at_ l x / 2 = e then at_ l (at_ l x) else at_ l x) else x
def less (e x : Nat) : Nat := if e < x / 2 then x - 2 else x
def dropTo (l : List Int) (e i : Nat) : List Nat := ((List.range i).filter fun d => d / 2 != e).map fun d => less e (skip l e (at_ l d))
def dropN (l : List Int) (e : Nat) : List Nat := dropTo l e l.length
def drop (l : List Int) (e : Int) : List Int := if DropOk l e then (dropN l e.toNat).map (fun d => ((d : Nat) : Int)) else []
/-- A new edge. -/
def Room (l : List Int) : Prop := l.length + 2 ≤ 24
instance (l : List Int) : Decidable (Room l) := by unfold Room; exact inferInstance
def Dart (l : List Int) (a : Int) : Prop := 0 ≤ a ∧ a < (l.length : Int)
instance (l : List Int) (a : Int) : Decidable (Dart l a) := by unfold Dart; exact inferInstance
def AddOk (l : List Int) (a b : Int) : Prop := IsM l ∧ Dart l a ∧ Dart l b ∧ Room l
instance (l : List Int) (a b : Int) : Decidable (AddOk l a b) := by unfold AddOk; exact inferInstance
def upd (f : Nat → Nat) (a b : Nat) : Nat → Nat := fun k => if k = a then b else f k
/-- The dart d is laid behind the dart a. -/
def behind (f : Nat → Nat) (d a : Nat) : Nat → Nat := upd (upd f d (f a)) a d
def addF (l : List Int) (a b : Nat) : Nat → Nat := behind (behind (at_ l) l.length a) (l.length + 1) (if a = b then l.length else b)
def add (l : List Int) (a b : Int) : List Int := if AddOk l a b then Cls.row (addF l a.toNat b.toNat) (l.length + 2) else []
def SubOk (l : List Int) (e : Int) : Prop := Edge l e ∧ Room l
instance (l : List Int) (e : Int) : Decidable (SubOk l e) := by unfold SubOk; exact inferInstance
/-- n is laid behind d, and n + 1 in the place that d had. -/
def subF (l : List Int) (d : Nat) : Nat → Nat := fun k =>
  if k = d then l.length else if k = l.length then d else if k = l.length + 1 then (if at_ l d = d then l.length + 1 else at_ l d) else if at_ l k = d then l.length + 1 else at_ l k
def sub (l : List Int) (e : Int) : List Int := if SubOk l e then Cls.row (subF l (2 * e.toNat + 1)) (l.length + 2) else []
theorem drop_len (l : List Int) (e : Int) : (drop l e).length ≤ 24 := by
  unfold drop; split
  · rename_i h
    rw [List.length_map]
    unfold dropN dropTo
    rw [List.length_map]
    refine Nat.le_trans (List.length_filter_le _ _) ?_
    rw [List.length_range]; exact h.1.1.2.1
  · simp
theorem add_len (l : List Int) (a b : Int) : (add l a b).length ≤ 24 := by
  unfold add; split
  · rename_i h; rw [Cls.row_len]; exact h.2.2.2
  · simp
theorem sub_len (l : List Int) (e : Int) : (sub l e).length ≤ 24 := by
  unfold sub; split
  · rename_i h; rw [Cls.row_len]; exact h.2
  · simp
end Mp
end Go.Proofs.YtamgimdjnmcpaaaGreat
