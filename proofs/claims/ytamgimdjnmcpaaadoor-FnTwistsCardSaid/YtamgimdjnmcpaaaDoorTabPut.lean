/-
  A number is stored into one of the rows that a call holds; tables that are filled column by column.
-/
import Derived.Test.YtamgimdjnmcpaaaDoorBase
import Derived.Test.YtamgimdjnmcpaaaDoorSlice
import Derived.Test.YtamgimdjnmcpaaaDoorIntRow
import Derived.Test.YtamgimdjnmcpaaaDoorInts
import Derived.Test.YtamgimdjnmcpaaaDoorOwn
import Derived.Test.YtamgimdjnmcpaaaDoorGrid
import Derived.Test.YtamgimdjnmcpaaaDoorGridWalk
import Derived.Test.YtamgimdjnmcpaaaDoorGridRows
import Derived.Test.YtamgimdjnmcpaaaDoorGivesRows
import Derived.Test.YtamgimdjnmcpaaaDoorRowsLit
import Derived.Test.YtamgimdjnmcpaaaDoorMoveA
import Derived.Test.YtamgimdjnmcpaaaDoorRowsSet
import Derived.Test.YtamgimdjnmcpaaaDoorBagA
import Derived.Test.YtamgimdjnmcpaaaDoorTw
namespace Go.Proofs.YtamgimdjnmcpaaaDoor
open Go.RowKit

theorem own_other {w w' : World} {base n g : Nat} {e t : TypeId} {v : Value} {xs : List Value} {cs : Array Value} (h : w.ownsRow base e 1 v n xs) (hk : Blk w g t cs) (ht : t ≠ e) (hg : w.grownBy w' (some g)) : w'.ownsRow base e 1 v n xs :=
  h.kept hg (by
    cases hb : v.ownBlock with
    | none => exact Or.inl rfl
    | some k => exact Or.inr (fun e' => hk.otherOf h ht (by rw [hb, e'])))
/-- Rows that are held, in blocks below M. -/
def HeldB (w : World) (lo M : Nat) (v : Value) (L : List (List Int)) : Prop :=
  ∃ hs : List Hd, hs.map Hd.l = L ∧ w.ownsRow lo 24 1 v L.length (hdCells hs) ∧ (∀ h ∈ hs, RowIn w lo M 3 h.a (intCells h.l)) ∧ Apts hs
theorem Held.toB {w : World} {lo : Nat} {v : Value} {L : List (List Int)} (h : Held w lo v L) : HeldB w lo w.heap.size v L := h
theorem HeldB.held {w : World} {lo M : Nat} {v : Value} {L : List (List Int)} (h : HeldB w lo M v L) (hM : M ≤ w.heap.size) : Held w lo v L := by
  obtain ⟨hs, h1, h2, h3, h4⟩ := h
  exact ⟨hs, h1, h2, fun x hx => (h3 x hx).mono (Nat.le_refl _) hM, h4⟩
theorem HeldB.mono {w : World} {lo M M' : Nat} {v : Value} {L : List (List Int)} (h : HeldB w lo M v L) (hM : M ≤ M') : HeldB w lo M' v L := by
  obtain ⟨hs, h1, h2, h3, h4⟩ := h
  exact ⟨hs, h1, h2, fun x hx => (h3 x hx).mono (Nat.le_refl _) hM, h4⟩
theorem HeldB.below {w w' : World} {lo M : Nat} {v : Value} {L : List (List Int)} (h : HeldB w lo M v L) (hb : Below w.heap.size w w') : HeldB w' lo M v L := by
  obtain ⟨hs, h1, h2, h3, h4⟩ := h
  exact ⟨hs, h1, own_keep h2 hb (fun k hk => (h2.lt k hk).2), fun x hx => (h3 x hx).below hb, h4⟩
theorem RowIn.setFar {w : World} {lo hi : Nat} {t : TypeId} {a : Option Addr} {cs : List Value} {p : Addr} (h : RowIn w lo hi t a cs) (hp : p.block < lo) (v : Value) : RowIn (w.setCell p v) lo hi t a cs := by
  rcases h with h | ⟨g, o, all, rfl, h3, h4, hk, hc⟩
  · exact Or.inl h
  · exact Or.inr ⟨g, o, all, rfl, h3, h4, hk.far (by omega) _, hc⟩
theorem HeldB.store {w : World} {lo M i j : Nat} {v : Value} {L : List (List Int)} {r : List Int} (h : HeldB w lo M v L) (hi : L[i]? = some r) (hj : j < r.length) :
    ∃ g' o ci, (∀ g n cap, v = .slice (some ⟨g, 0, none⟩) n cap → w.cell? ⟨g, i, none⟩ = some (.slice (some ⟨g', o, none⟩) r.length ci)) ∧ w.frozen? ⟨g', o + j, none⟩ = false ∧ (∃ u, w.cell? ⟨g', o + j, none⟩ = some u) ∧ lo ≤ g' ∧ g' < M ∧
      ∀ x : Int, HeldB (w.setCell ⟨g', o + j, none⟩ (.int .i64 x)) lo M v (L.set i (r.set j x)) := by
  obtain ⟨hs, rfl, h2, h3, h4⟩ := h
  have h6 : i < hs.length := by
    have := (List.getElem?_eq_some_iff.1 hi).1
    simpa using this
  obtain ⟨x, hx⟩ := get_some h6
  have hxl : x.l = r := by rw [List.getElem?_map, hx] at hi; exact Option.some.inj hi
  subst hxl
  have hxm := get_mem hx
  rcases h3 x hxm with e | ⟨g', o, all, ea, e1, e2, e3, e4⟩
  · have : x.l = [] := by simpa [intCells] using e
    rw [this] at hj; simp at hj
  have hall : all[o + j]? = some (.int .i64 x.l[j]) := e4 j _ (intCells_get hj)
  refine ⟨g', o, x.c, fun g n cap hv => ?_, e3.frozen _, ⟨_, by rw [e3.cell, hall]⟩, e1, e2, fun y => ?_⟩
  · subst hv
    obtain ⟨a', c', he⟩ := own_len h2
    cases he
    rw [h2.cellAt i (by simpa using h6), hdCells_get h6]
    have : hs[i] = x := by have := List.getElem?_eq_getElem h6; rw [hx] at this; exact (Option.some.inj this).symm
    rw [this]; unfold Hd.val; rw [ea]
  · have hg : w.grownBy (w.setCell ⟨g', o + j, none⟩ (.int .i64 y)) (some g') := only_setCell (World.grownBy.refl _ _) (Or.inl rfl) _
    have hval : hdCells (hs.set i ⟨x.a, x.c, x.l.set j y⟩) = hdCells hs := by
      rw [hdCells_set]
      refine List.ext_getElem (by simp) fun k k1 k2 => ?_
      rw [List.getElem_set]
      by_cases e : i = k
      · subst e
        rw [if_pos rfl]
        have := hdCells_get h6
        have hx2 : hs[i] = x := by have := List.getElem?_eq_getElem h6; rw [hx] at this; exact (Option.some.inj this).symm
        rw [hx2, List.getElem?_eq_getElem k2] at this
        rw [Option.some.inj this]
        simp [Hd.val]
      · rw [if_neg e]
    refine ⟨hs.set i ⟨x.a, x.c, x.l.set j y⟩, by rw [List.map_set], ?_, fun z hz => ?_, ?_, fun z hz => ?_⟩
    · rw [hval, List.length_set]
      exact own_other h2 e3 (by decide) hg
    · obtain ⟨k, hk, rfl⟩ := List.mem_iff_getElem.1 hz
      rw [List.length_set] at hk
      rw [List.getElem_set]
      by_cases e : i = k
      · rw [if_pos e]
        refine Or.inr ⟨g', o, _, ea, e1, e2, e3.put (o + j) _, fun t u hu => ?_⟩
        rw [Array.getElem?_setIfInBounds]
        have hu' : u = if t = j then .int .i64 y else .int .i64 (x.l.getD t 0) := by
          show _
          have hu2 : (intCells (x.l.set j y))[t]? = some u := hu
          simp only [intCells, List.getElem?_map, List.getElem?_set] at hu2
          by_cases ej : j = t
          · subst ej
            rw [if_pos rfl, if_pos hj] at hu2
            rw [if_pos rfl]
            exact (Option.some.inj hu2).symm
          · rw [if_neg ej] at hu2
            rw [if_neg (fun h => ej h.symm), List.getD_eq_getElem?_getD]
            cases hq : x.l[t]? with
            | none => rw [hq] at hu2; cases hu2
            | some q => rw [hq] at hu2; exact (Option.some.inj hu2).symm
        by_cases ej : o + j = o + t
        · obtain rfl : t = j := by omega
          rw [if_pos rfl, if_pos (Array.getElem?_eq_some_iff.1 hall).1, hu', if_pos rfl]
        · rw [if_neg ej]
          have hu2 : (intCells (x.l.set j y))[t]? = some u := hu
          simp only [intCells, List.getElem?_map, List.getElem?_set, if_neg (show ¬ j = t by omega)] at hu2
          exact e4 t u (by simp only [intCells, List.getElem?_map]; exact hu2)
      · rw [if_neg e]
        have hzm := List.getElem_mem hk
        rcases h3 _ hzm with e' | ⟨g2, o2, all2, ea2, f1, f2, f3, f4⟩
        · exact Or.inl e'
        · by_cases hemp : hs[k].l = []
          · exact Or.inl (by rw [hemp]; rfl)
          refine Or.inr ⟨g2, o2, all2, ea2, f1, f2, f3.far (fun eg => ?_) _, f4⟩
          have eg : g2 = g' := eg
          subst eg
          have hx2 : hs[i] = x := by have := List.getElem?_eq_getElem h6; rw [hx] at this; exact (Option.some.inj this).symm
          have hap := List.pairwise_iff_getElem.1 h4.1
          have hA : Apart hs[k] x ∨ Apart x hs[k] := by
            rcases Nat.lt_or_gt_of_ne e with hlt | hlt
            · right; rw [← hx2]; exact hap i k h6 hk hlt
            · left; rw [← hx2]; exact hap k i hk h6 hlt
          have hA : Apart hs[k] x := by
            rcases hA with hA | hA
            · exact hA
            · exact hA.symm
          rcases hA with hA | hA | hA
          · exact hemp hA
          · rw [hA] at hj; simp at hj
          · exact hA g2 o2 g2 o ea2 ea rfl
    · rw [List.pairwise_iff_getElem]
      have hap := List.pairwise_iff_getElem.1 h4.1
      intro k m hk hm hkm
      rw [List.length_set] at hk hm
      have hx2 : hs[i] = x := by have := List.getElem?_eq_getElem h6; rw [hx] at this; exact (Option.some.inj this).symm
      have key := hap k m hk hm hkm
      have hsame : ∀ (q : Nat) (hq : q < hs.length), ((hs.set i ⟨x.a, x.c, x.l.set j y⟩)[q]'(by simpa using hq)).a = hs[q].a ∧ (hs[q].l = [] → ((hs.set i ⟨x.a, x.c, x.l.set j y⟩)[q]'(by simpa using hq)).l = []) := by
        intro q hq
        rw [List.getElem_set]
        by_cases e : i = q
        · subst e
          rw [if_pos rfl, hx2]
          exact ⟨rfl, fun h => by rw [h] at hj; simp at hj⟩
        · rw [if_neg e]; exact ⟨rfl, id⟩
      obtain ⟨a1, a2⟩ := hsame k hk
      obtain ⟨b1, b2⟩ := hsame m hm
      rcases key with key | key | key
      · exact Or.inl (a2 key)
      · exact Or.inr (Or.inl (b2 key))
      · exact Or.inr (Or.inr fun g1 o1 g2 o2 q1 q2 => key g1 o1 g2 o2 (a1 ▸ q1) (b1 ▸ q2))
    · rcases List.mem_or_eq_of_mem_set hz with hz | rfl
      · exact h4.2 _ hz
      · have := h4.2 _ hxm
        simpa using this
theorem RowsIn.held {w wr : World} {N : Nat} {ov : Value} {L : List (List Int)} (h : RowsIn w N wr ov L) : Held wr N ov L ∧ Below N w wr := by
  obtain ⟨hs, h1, h2, h3, h4, hb⟩ := h
  exact ⟨⟨hs, h1, h2, h3, h4⟩, hb⟩

namespace Tw
/-- The table whose first j columns, and the first k numbers of the next one, are those of F; the others are z's. -/
def part (F : Nat → List Int) (z : Nat → Nat → Int) (n j k : Nat) : List (List Int) :=
  (List.range n).map fun i => (List.range n).map fun m => if m < j ∨ m = j ∧ i < k then nth (F m) i else z i m
theorem part_len (F : Nat → List Int) (z : Nat → Nat → Int) (n j k : Nat) : (part F z n j k).length = n := by simp [part]
theorem part_get {F : Nat → List Int} {z : Nat → Nat → Int} {n j k i : Nat} (h : i < n) : (part F z n j k)[i]? = some ((List.range n).map fun m => if m < j ∨ m = j ∧ i < k then nth (F m) i else z i m) := by simp [part, h]
theorem part_row_len (F : Nat → List Int) (z : Nat → Nat → Int) (n j k i : Nat) : ((List.range n).map fun m => if m < j ∨ m = j ∧ i < k then nth (F m) i else z i m).length = n := by simp
theorem part_put {F : Nat → List Int} {z : Nat → Nat → Int} {n j k : Nat} (hj : j < n) (hk : k < n) :
    (part F z n j k).set k (((List.range n).map fun m => if m < j ∨ m = j ∧ k < k then nth (F m) k else z k m).set j (nth (F j) k)) = part F z n j (k + 1) := by
  refine List.ext_getElem (by simp [part]) fun i h1 h2 => ?_
  rw [List.length_set, part_len] at h1
  rw [List.getElem_set]
  have e2 : (part F z n j (k + 1))[i] = (List.range n).map fun m => if m < j ∨ m = j ∧ i < k + 1 then nth (F m) i else z i m := by
    have := part_get (F := F) (z := z) (j := j) (k := k + 1) h1
    rw [List.getElem?_eq_getElem h2] at this; exact Option.some.inj this
  rw [e2]
  by_cases e : k = i
  · subst e
    rw [if_pos rfl]
    refine List.ext_getElem (by simp) fun m m1 m2 => ?_
    rw [List.getElem_set]
    simp only [List.getElem_map, List.getElem_range]
    by_cases ej : j = m
    · subst ej; rw [if_pos rfl, if_pos (Or.inr ⟨rfl, by omega⟩)]
    · rw [if_neg ej]
      by_cases h : m < j
      · rw [if_pos (Or.inl h), if_pos (Or.inl h)]
      · rw [if_neg (by omega), if_neg (by omega)]
  · rw [if_neg e]
    have e3 : (part F z n j k)[i]'(by rw [part_len]; exact h1) = (List.range n).map fun m => if m < j ∨ m = j ∧ i < k then nth (F m) i else z i m := by
      have := part_get (F := F) (z := z) (j := j) (k := k) h1
      rw [List.getElem?_eq_getElem (by rw [part_len]; exact h1)] at this; exact Option.some.inj this
    rw [e3]
    refine List.map_congr_left fun m _ => ?_
    by_cases h : m < j ∨ m = j ∧ i < k
    · rw [if_pos h, if_pos (by omega)]
    · rw [if_neg h, if_neg (by omega)]
theorem part_next (F : Nat → List Int) (z : Nat → Nat → Int) (n j : Nat) : part F z n j n = part F z n (j + 1) 0 := by
  unfold part
  refine List.map_congr_left fun i hi => List.map_congr_left fun m _ => ?_
  rw [List.mem_range] at hi
  by_cases h : m < j + 1
  · rw [if_pos (by omega), if_pos (Or.inl h)]
  · rw [if_neg (by omega), if_neg (by omega)]
theorem part_all {F : Nat → List Int} {z : Nat → Nat → Int} {n : Nat} : part F z n n 0 = cols ((List.range n).map F) := by
  unfold part cols
  rw [List.length_map, List.length_range]
  refine List.map_congr_left fun i _ => ?_
  unfold col
  rw [List.map_map]
  refine List.map_congr_left fun m hm => ?_
  rw [List.mem_range] at hm
  rw [if_pos (Or.inl hm)]; rfl
theorem part_zero {F : Nat → List Int} {n : Nat} : part F (fun _ _ => 0) n 0 0 = List.replicate n (List.replicate n 0) := by
  unfold part
  refine List.ext_getElem (by simp) fun i h1 h2 => ?_
  simp only [List.getElem_map, List.getElem_range, List.getElem_replicate]
  refine List.ext_getElem (by simp) fun m m1 m2 => ?_
  simp
theorem part_table {F : Nat → List Int} {T : List (List Int)} (hT : ∀ r ∈ T, r.length = T.length) : part F (fun i m => nth (T.getD i []) m) T.length 0 0 = T := by
  unfold part
  refine List.ext_getElem (by simp) fun i h1 h2 => ?_
  simp only [List.getElem_map, List.getElem_range]
  have hr := hT _ (List.getElem_mem h2)
  refine Tw.ext (by simp [hr]) fun m m1 => ?_
  rw [List.length_map, List.length_range] at m1
  rw [nth_range m1, if_neg (by omega), List.getD_eq_getElem?_getD, List.getElem?_eq_getElem h2]; rfl
end Tw
end Go.Proofs.YtamgimdjnmcpaaaDoor
