/-
  Rotations vertex after vertex: each is a permutation, and their genus does not hang on what stood there before.
-/
import Derived.Test.YtpgdmbolckogcaaBase
import Derived.Test.YtpgdmbolckogcaaSlice
import Derived.Test.YtpgdmbolckogcaaInts
import Derived.Test.YtpgdmbolckogcaaGrid
import Derived.Test.YtpgdmbolckogcaaClass
import Derived.Test.YtpgdmbolckogcaaLab
import Derived.Test.YtpgdmbolckogcaaMap
import Derived.Test.YtpgdmbolckogcaaMapTopo
import Derived.Test.YtpgdmbolckogcaaMapTopo2
import Derived.Test.YtpgdmbolckogcaaMapTopo3
import Derived.Test.YtpgdmbolckogcaaGraph
import Derived.Test.YtpgdmbolckogcaaGraphRot
import Derived.Test.YtpgdmbolckogcaaGraphEn
import Derived.Test.YtpgdmbolckogcaaGraphP
import Derived.Test.YtpgdmbolckogcaaGraphQ
namespace Go.Proofs.Ytpgdmbolckogcaa
open Go.RowKit

namespace Gr
open Mp (Per gen)
/-- The darts at each vertex less than v follow each other around. -/
def Good (u : Nat → Nat) (n v : Nat) (m : Nat → Nat) : Prop := ∀ v', v' < v → ∃ o : List Nat, o.Perm (at7 u n v') ∧ Ring m o
theorem Good.zero (u : Nat → Nat) (n : Nat) (m : Nat → Nat) : Good u n 0 m := fun _ h => by omega
theorem Good.congr {u : Nat → Nat} {n v : Nat} {m m' : Nat → Nat} (h : Good u n v m) (he : ∀ d, d < n → u d < v → m' d = m d) : Good u n v m' := fun v' hv => by
  obtain ⟨o, hp, hr⟩ := h v' hv
  refine ⟨o, hp, hr.congr fun a ha => ?_⟩
  have := at7_mem.1 (hp.mem_iff.1 ha)
  exact he a this.1 (by rw [this.2]; exact hv)
theorem Good.step {u : Nat → Nat} {n v : Nat} {m : Nat → Nat} (h : Good u n v m) {o : List Nat} (ho : o ∈ orders (at7 u n v)) : Good u n (v + 1) (ringF m o) := fun v' hv => by
  have hp := orders_perm ho
  have hno : o.Nodup := hp.nodup_iff.2 (at7_nodup _ _ _)
  by_cases e : v' = v
  · subst e
    refine ⟨o, hp, ?_⟩
    have hf : ∀ d, u d = v' → (fun x => x) d = d := fun _ _ => rfl
    have hr := (En_orders (u := u) (n := n) (v := v') (f := fun x => x) hf n (Nat.le_refl _)).2 o ho
    exact hr.congr fun a ha => ringF_in hno ha
  · obtain ⟨o', hp', hr'⟩ := h v' (by omega)
    refine ⟨o', hp', hr'.congr fun a ha => ringF_out fun h2 => ?_⟩
    have h1 := (at7_mem.1 (hp'.mem_iff.1 ha)).2
    have h2 := (at7_mem.1 (hp.mem_iff.1 h2)).2
    exact e (h1.symm.trans h2)
theorem Ring.mem {f : Nat → Nat} {l : List Nat} (h : Ring f l) {d : Nat} (hd : d ∈ l) : f d ∈ l := by
  obtain ⟨k, hk, rfl⟩ := mem_getD hd
  rw [h.next hk]
  exact getD_mem (Nat.mod_lt _ (by omega))
theorem Ring.inj {f : Nat → Nat} {l : List Nat} (h : Ring f l) (hn : l.Nodup) {d e : Nat} (hd : d ∈ l) (he : e ∈ l) (hh : f d = f e) : d = e := by
  obtain ⟨k, hk, rfl⟩ := mem_getD hd
  obtain ⟨j, hj, rfl⟩ := mem_getD he
  rw [h.next hk, h.next hj] at hh
  have hm := nodup_getD hn (Nat.mod_lt _ (by omega)) (Nat.mod_lt _ (by omega)) hh
  have : k = j := by
    by_cases h1 : k + 1 = l.length
    · by_cases h2 : j + 1 = l.length
      · omega
      · rw [h1, Nat.mod_self, Nat.mod_eq_of_lt (by omega)] at hm; omega
    · by_cases h2 : j + 1 = l.length
      · rw [h2, Nat.mod_self, Nat.mod_eq_of_lt (by omega)] at hm; omega
      · rw [Nat.mod_eq_of_lt (by omega), Nat.mod_eq_of_lt (by omega)] at hm; omega
  rw [this]
theorem Good.per {u : Nat → Nat} {n v : Nat} {m : Nat → Nat} (h : Good u n v m) (hu : ∀ d, d < n → u d < v) : Per m n := by
  have key : ∀ d, d < n → ∃ o : List Nat, o.Perm (at7 u n (u d)) ∧ Ring m o ∧ d ∈ o := fun d hd => by
    obtain ⟨o, hp, hr⟩ := h (u d) (hu d hd)
    exact ⟨o, hp, hr, hp.mem_iff.2 (at7_mem.2 ⟨hd, rfl⟩)⟩
  refine ⟨fun d hd => ?_, fun d e hd he hh => ?_⟩
  · obtain ⟨o, hp, hr, hm⟩ := key d hd
    exact (at7_mem.1 (hp.mem_iff.1 (hr.mem hm))).1
  · obtain ⟨o, hp, hr, hm⟩ := key d hd
    obtain ⟨o', hp', hr', hm'⟩ := key e he
    have h1 := (at7_mem.1 (hp.mem_iff.1 (hr.mem hm))).2
    have h2 := (at7_mem.1 (hp'.mem_iff.1 (hr'.mem hm'))).2
    rw [hh] at h1
    have huv : u d = u e := h1.symm.trans h2
    have hme : e ∈ o := hp.mem_iff.2 (at7_mem.2 ⟨he, huv.symm⟩)
    exact hr.inj (hp.nodup_iff.2 (at7_nodup _ _ _)) hm hme hh
theorem genN_congr {n : Nat} (hn : n % 2 = 0) (f g : Nat → Nat) (h : ∀ d, d < n → f d = g d) : genN n f = genN n g := by unfold genN; rw [Mp.gen_congr hn h]
theorem byVertex_congr {u : Nat → Nat} {n : Nat} {G : (Nat → Nat) → Nat} (hG : ∀ f g, (∀ d, d < n → f d = g d) → G f = G g) : ∀ (k v : Nat) (m m' : Nat → Nat), (∀ d, d < n → u d < v + k) → (∀ d, d < n → u d < v → m d = m' d) → (byVertex u n k v m).map G = (byVertex u n k v m').map G
  | 0, v, m, m', hu, hm => by
    show [G m] = [G m']
    rw [hG m m' fun d hd => hm d hd (by have := hu d hd; omega)]
  | k + 1, v, m, m', hu, hm => by
    show ((orders (at7 u n v)).flatMap fun o => byVertex u n k (v + 1) (ringF m o)).map G = ((orders (at7 u n v)).flatMap fun o => byVertex u n k (v + 1) (ringF m' o)).map G
    rw [List.map_flatMap, List.map_flatMap]
    refine fun_congr fun o ho => ?_
    have hp := orders_perm ho
    have hno : o.Nodup := hp.nodup_iff.2 (at7_nodup _ _ _)
    refine byVertex_congr hG k (v + 1) _ _ (fun d hd => by have := hu d hd; omega) (fun d hd hdv => ?_)
    by_cases e : d ∈ o
    · exact ringF_in hno e
    · rw [ringF_out e, ringF_out e]
      refine hm d hd ?_
      rcases Nat.lt_or_ge (u d) v with h | h
      · exact h
      · exact absurd (hp.mem_iff.2 (at7_mem.2 ⟨hd, by omega⟩)) e
/-- What the first i orders have made. -/
def vpre (u : Nat → Nat) (n k v i : Nat) (m : Nat → Nat) (O : List (List Nat)) : List (Nat → Nat) := (O.take i).flatMap fun o => byVertex u n k (v + 1) (ringF m o)
theorem vpre_step {u : Nat → Nat} {n k v i : Nat} {m : Nat → Nat} {O : List (List Nat)} {o : List Nat} (h : O[i]? = some o) : vpre u n k v (i + 1) m O = vpre u n k v i m O ++ byVertex u n k (v + 1) (ringF m o) := by
  obtain ⟨hi, rfl⟩ := List.getElem?_eq_some_iff.1 h
  unfold vpre
  rw [List.take_succ_eq_append_getElem hi, List.flatMap_append]; simp
theorem vpre_end (u : Nat → Nat) (n k v : Nat) (m : Nat → Nat) : vpre u n k v (orders (at7 u n v)).length m (orders (at7 u n v)) = byVertex u n (k + 1) v m := by
  unfold vpre; rw [List.take_of_length_le (Nat.le_refl _)]; rfl
theorem vpre_len {u : Nat → Nat} {n k v i : Nat} {m : Nat → Nat} {O : List (List Nat)} : (vpre u n k v i m O).length ≤ (vpre u n k v O.length m O).length := by
  unfold vpre
  rw [List.take_of_length_le (Nat.le_refl _), List.length_flatMap, List.length_flatMap]
  have : (O.map fun o => (byVertex u n k (v + 1) (ringF m o)).length).sum = ((O.take i).map fun o => (byVertex u n k (v + 1) (ringF m o)).length).sum + ((O.drop i).map fun o => (byVertex u n k (v + 1) (ringF m o)).length).sum := by
    rw [← List.sum_append, ← List.map_append, List.take_append_drop]
  omega
theorem deg_small {u : Nat → Nat} {n v : Nat} (hv : v < 7) (h : rot u n 7 ≤ 2000) : (at7 u n v).length ≤ 7 := by
  have mono : ∀ j i, i ≤ j → rot u n i ≤ rot u n j := by
    intro j
    induction j with
    | zero => intro i hi; obtain rfl : i = 0 := by omega
              exact Nat.le_refl _
    | succ j ih =>
      intro i hi
      by_cases e : i = j + 1
      · rw [e]; exact Nat.le_refl _
      · exact Nat.le_trans (ih i (by omega)) (Nat.le_mul_of_pos_right _ (fac_pos _))
  have h1 : fac ((at7 u n v).length - 1) ≤ rot u n (v + 1) := Nat.le_mul_of_pos_left _ (rot_pos u n v)
  have h2 := mono 7 (v + 1) (by omega)
  rcases Nat.lt_or_ge (at7 u n v).length 8 with h3 | h3
  · omega
  · have h4 := fac_mono (show 7 ≤ (at7 u n v).length - 1 by omega)
    have h5 : fac 7 = 5040 := by decide +kernel
    omega
/-- The model counts as the program does. -/
theorem grow_eq {L : List (List Int)} (h : IsG L) (m : Nat → Nat) : hist ((byVertex (vx L) (2 * L.length) 7 0 m).map (genN (2 * L.length))) = grow L :=
  hist_perm (same_rotations (genN_congr (by omega)) (fun d hd => vx_lt h hd) m)
theorem byVertex_few {L : List (List Int)} (h : IsG L) (m : Nat → Nat) : (byVertex (vx L) (2 * L.length) 7 0 m).length ≤ 2432902008176640000 := by
  have h1 := (same_rotations (genN_congr (n := 2 * L.length) (by omega)) (fun d hd => vx_lt h hd) m).length_eq
  rw [List.length_map, List.length_map] at h1
  rw [h1]
  exact byDart_few (vx L) (by have := h.2.2; omega)
end Gr
end Go.Proofs.Ytpgdmbolckogcaa
