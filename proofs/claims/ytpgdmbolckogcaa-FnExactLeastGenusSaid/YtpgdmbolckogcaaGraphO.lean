/-
  The walk of the model's orders of a list that begin with its first element.
-/
import Derived.Test.YtpgdmbolckogcaaBase
import Derived.Test.YtpgdmbolckogcaaSlice
import Derived.Test.YtpgdmbolckogcaaIntRow
import Derived.Test.YtpgdmbolckogcaaInts
import Derived.Test.YtpgdmbolckogcaaOwn
import Derived.Test.YtpgdmbolckogcaaAppend
import Derived.Test.YtpgdmbolckogcaaStepRow
import Derived.Test.YtpgdmbolckogcaaGrid
import Derived.Test.YtpgdmbolckogcaaGridWalk
import Derived.Test.YtpgdmbolckogcaaGridRows
import Derived.Test.YtpgdmbolckogcaaClass
import Derived.Test.YtpgdmbolckogcaaLab
import Derived.Test.YtpgdmbolckogcaaMap
import Derived.Test.YtpgdmbolckogcaaMapD
import Derived.Test.YtpgdmbolckogcaaGraph
import Derived.Test.YtpgdmbolckogcaaGraphRot
import Derived.Test.YtpgdmbolckogcaaGraphEn
import Derived.Test.YtpgdmbolckogcaaRowsLit
import Derived.Test.YtpgdmbolckogcaaGraphC
import Derived.Deep.RegionHeld3
import Derived.Deep.RegionLaw
import Derived.Deep.QuietTactic
import Derived.BigQuiet
namespace Go.Proofs.Ytpgdmbolckogcaa
open Go.RowKit

namespace Gr
theorem ordTo_len (l : List Nat) : ∀ k, k ≤ l.length → (∀ o ∈ ordTo l k, o.length = k) ∧ (ordTo l k).length ≤ fac k
  | 0, _ => ⟨fun o h => by have : o = [] := by simpa [ordTo] using h
                           rw [this]; rfl, Nat.le_refl _⟩
  | k + 1, hk => by
    obtain ⟨h1, h2⟩ := ordTo_len l k (by omega)
    refine ⟨fun o ho => ?_, ?_⟩
    · have := (ordTo_perm l (k + 1) hk o ho).length_eq
      rw [this, List.length_take]; omega
    · show (ordStep (ordTo l k) k (l.getD k 0)).length ≤ fac k * (k + 1)
      unfold ordStep
      rw [List.length_flatMap]
      have : ∀ (O : List (List Nat)), (∀ o ∈ O, o.length = k) → (O.map fun o => ((places o.length k).map fun i => put o (l.getD k 0) i).length).sum ≤ O.length * (k + 1) := by
        intro O
        induction O with
        | nil => intro _; simp
        | cons o O ih =>
          intro h
          have := ih fun o ho => h o (by simp [ho])
          have hp : ((places o.length k).map fun i => put o (l.getD k 0) i).length ≤ k + 1 := by
            rw [List.length_map]
            unfold places
            rw [List.length_map, List.length_range, h o (by simp)]; omega
          rw [List.map_cons, List.sum_cons, List.length_cons, Nat.add_mul]
          omega
      exact Nat.le_trans (this _ h1) (Nat.mul_le_mul h2 (Nat.le_refl _))
/-- What the loops have made: i of the orders are done, and j places of the next one. -/
def stepTo (O : List (List Nat)) (k x i j : Nat) : List (List Nat) := ((O.take i).flatMap fun o => (places o.length k).map fun p => put o x p) ++ (List.range j).map fun t => put (O.getD i []) x ((O.getD i []).length - t)
theorem stepTo_zero (O : List (List Nat)) (k x : Nat) : stepTo O k x 0 0 = [] := by simp [stepTo]
theorem stepTo_more (O : List (List Nat)) (k x i j : Nat) : stepTo O k x i (j + 1) = stepTo O k x i j ++ [put (O.getD i []) x ((O.getD i []).length - j)] := by
  unfold stepTo; rw [List.range_succ, List.map_append, ← List.append_assoc]; rfl
theorem stepTo_next {O : List (List Nat)} {k x i : Nat} {o : List Nat} (h : O[i]? = some o) (ho : o.length = k) : stepTo O k x i (k + 1 - min 1 k) = stepTo O k x (i + 1) 0 := by
  obtain ⟨hi, rfl⟩ := List.getElem?_eq_some_iff.1 h
  unfold stepTo
  rw [List.take_succ_eq_append_getElem hi, List.flatMap_append, List.range_zero, List.map_nil, List.append_nil]
  congr 1
  have e : O.getD i [] = O[i] := by rw [List.getD_eq_getElem?_getD, List.getElem?_eq_getElem hi]; rfl
  rw [e, List.flatMap_singleton]
  unfold places
  rw [List.map_map, ho]; rfl
theorem stepTo_end (O : List (List Nat)) (k x : Nat) : stepTo O k x O.length 0 = ordStep O k x := by
  unfold stepTo ordStep
  rw [List.take_of_length_le (Nat.le_refl _)]; simp
theorem stepTo_len {O : List (List Nat)} {k x i j : Nat} (h : ∀ o ∈ O, o.length = k) (hj : j ≤ k + 1) : (stepTo O k x i j).length ≤ (O.length + 1) * (k + 1) := by
  unfold stepTo
  rw [List.length_append, List.length_map, List.length_range, List.length_flatMap]
  have : ∀ (O' : List (List Nat)), (∀ o ∈ O', o.length = k) → (O'.map fun o => ((places o.length k).map fun p => put o x p).length).sum ≤ O'.length * (k + 1) := by
    intro O'
    induction O' with
    | nil => intro _; simp
    | cons o O' ih =>
      intro h
      have := ih fun o ho => h o (by simp [ho])
      have hp : ((places o.length k).map fun p => put o x p).length ≤ k + 1 := by
        rw [List.length_map]
        unfold places
        rw [List.length_map, List.length_range, h o (by simp)]; omega
      rw [List.map_cons, List.sum_cons, List.length_cons, Nat.add_mul]
      omega
  have h1 := this (O.take i) fun o ho => h o (List.mem_of_mem_take ho)
  have h2 : (O.take i).length * (k + 1) ≤ O.length * (k + 1) := Nat.mul_le_mul (by rw [List.length_take]; omega) (Nat.le_refl _)
  rw [Nat.add_mul]; omega
theorem put_cells (o : List Nat) (x p : Nat) : intCells [] ++ intCells (intsOf (o.take p)) ++ [.int .i64 ((x : Nat) : Int)] ++ intCells (intsOf (o.drop p)) = intCells (intsOf (put o x p)) := by
  unfold put; simp [intCells, intsOf]
end Gr
theorem natRows_get {C : List (List Nat)} {i : Nat} {o : List Nat} (h : C[i]? = some o) : (Mp.natRows C)[i]? = some (intsOf o) := by unfold Mp.natRows; rw [List.getElem?_map, h]; rfl
theorem intsOf_take (l : List Nat) (k : Nat) : intsOf (l.take k) = (intsOf l).take k := by simp [intsOf, List.map_take]
theorem intsOf_drop (l : List Nat) (k : Nat) : intsOf (l.drop k) = (intsOf l).drop k := by simp [intsOf, List.map_drop]
/-- One row more, made behind the world wr. -/
theorem RowsIn.push {w wr w8 w9 : World} {N c : Nat} {ov v9 : Value} {hs : List Hd} {L : List (List Int)} {a : Option Addr} {l : List Int} {o : Obj} (h1 : hs.map Hd.l = L) (h2 : wr.ownsRow N 27 1 ov L.length (hdCells hs)) (h3 : ∀ h ∈ hs, RowIn wr N wr.heap.size 3 h.a (intCells h.l)) (h4 : Apts hs) (hb : Below N w wr) (hN : N ≤ wr.heap.size)
    (hbw : Below wr.heap.size wr w8) (hf : Fresh w8 wr.heap.size 3 a (intCells l)) (hlc : l.length ≤ c)
    (hown : w9.ownsRow N 27 1 v9 (L.length + 1) (hdCells hs ++ [.slice a l.length c])) (hg : (w8.alloc o).grownBy w9 ov.ownBlock) : RowsIn w N w9 v9 (L ++ [l]) := by
  subst h1
  have hn : (hs.map Hd.l).length = hs.length := List.length_map _
  rw [hn] at h2 hown
  have ho8 := own_keep h2 hbw (fun k hk => (h2.lt k hk).2)
  have hst := grid_more (c := c) (M := wr.heap.size) (fun h hh => (h3 h hh).below hbw) h4 ho8 hN hbw.size hf hg hlc
  refine ⟨hs ++ [⟨a, c, l⟩], by simp, ?_, hst.1, hst.2, ?_⟩
  · rw [← hdCells_snoc, List.length_append, hn]; exact hown
  · exact ((hb.trans (hbw.mono hN)).alloc (Nat.le_trans hN hbw.size) _).grown hg (by have := hbw.size; simp; omega) (fun k hk => (h2.lt k hk).1)
theorem RowsIn.gridIn {w wr : World} {N : Nat} {ov : Value} {L : List (List Int)} (h : RowsIn w N wr ov L) : ∃ a c, ov = .slice a L.length c ∧ GridIn wr N wr.heap.size a L ∧ Below N w wr ∧ L.length ≤ c ∧ c ≤ maxLen := by
  obtain ⟨hs, rfl, h2, h3, h4, hb⟩ := h
  obtain ⟨a, c, rfl, k1, k2, hg⟩ := grid_done h2 (List.length_map _).symm h3 h4
  exact ⟨a, c, by rw [List.length_map], hg, hb, k1, k2⟩

set_option maxRecDepth 10000 in
theorem spec_l1Min7 (k : Nat) (w : World) (hk : k ≤ 1000) : Calls Try.prog 70 #[.int .i64 1, .int .i64 (k : Int)] w fun e w' => e = .returned (.int .i64 ((min 1 k : Nat) : Int)) ∧ w' = w := by
  by_cases h : 1 < k
  · rw [show min 1 k = 1 by omega]
    have d1 : (1 : Int) < (k : Int) := by omega
    go_enter Try.func70, Try.ntmps70
    go_wp2
    go_ret
    exact ⟨rfl, rfl⟩
  · rw [show min 1 k = k by omega]
    have d1 : ¬ (1 : Int) < (k : Int) := by omega
    go_enter Try.func70, Try.ntmps70
    go_wp2
    go_ret
    exact ⟨rfl, rfl⟩

/-- Rows whose addresses are there. -/
def GridS (w : World) (lo hi : Nat) (a : Option Addr) (L : List (List Int)) : Prop :=
  ∃ hs : List Hd, hs.map Hd.l = L ∧ RowIn w lo hi 27 a (hdCells hs) ∧ (∀ h ∈ hs, RowIn w lo hi 3 h.a (intCells h.l)) ∧ Apts hs ∧ ∀ h ∈ hs, ∃ b o, h.a = some ⟨b, o, none⟩
theorem GridS.gridIn {w : World} {lo hi : Nat} {a : Option Addr} {L : List (List Int)} (h : GridS w lo hi a L) : GridIn w lo hi a L := by
  obtain ⟨hs, h1, h2, h3, h4, _⟩ := h; exact ⟨hs, h1, h2, h3, h4⟩
theorem GridS.of {w : World} {lo hi : Nat} {a : Option Addr} {L : List (List Int)} (h : GridIn w lo hi a L) (hL : ∀ r ∈ L, r ≠ []) : GridS w lo hi a L := by
  obtain ⟨hs, rfl, h2, h3, h4⟩ := h
  refine ⟨hs, rfl, h2, h3, h4, fun x hx => ?_⟩
  rcases h3 x hx with e | ⟨g, o, all, e, _⟩
  · exact absurd (by simpa [intCells] using e) (hL x.l (List.mem_map.2 ⟨x, hx, rfl⟩))
  · exact ⟨g, o, e⟩
theorem GridS.cell {w : World} {lo hi : Nat} {a : Option Addr} {L : List (List Int)} (h : GridS w lo hi a L) {i : Nat} {r : List Int} (hi' : L[i]? = some r) : ∃ b o ab ao ci, a = some ⟨b, o, none⟩ ∧ r.length ≤ ci ∧ (∀ W, Below w.heap.size w W → W.cell? ⟨b, o + i, none⟩ = some (.slice (some ⟨ab, ao, none⟩) r.length ci)) ∧ ∀ W, Below w.heap.size w W → RowAt W (some ⟨ab, ao, none⟩) (intCells r) := by
  obtain ⟨hs, rfl, h2, h3, h4, h5⟩ := h
  obtain ⟨h5', rfl⟩ := List.getElem?_eq_some_iff.1 hi'
  have h6 : i < hs.length := by simpa using h5'
  obtain ⟨b, o, rfl, hb, hc⟩ := h2.row.at (i := i) (by rw [hdCells_len]; exact h6)
  have hm := List.getElem_mem h6
  obtain ⟨ab, ao, e⟩ := h5 _ hm
  refine ⟨b, o, ab, ao, hs[i].c, rfl, by have := h4.2 _ hm; simpa using this, fun W hW => ?_, fun W hW => ?_⟩
  · rw [hW.cell hb, hc i _ (hdCells_get h6)]; simp [Hd.val, e]
  · have := (h3 _ hm).row.below hW; rw [e] at this; simpa using this
theorem below_alloc7 {W0 W : World} {o : Obj} (h : Below W0.heap.size W0 W) : Below W0.heap.size W0 (W.alloc o) := h.alloc h.size o
theorem own_madeK {W : World} {N K : Nat} (hK : W.heap.size = K) (hN : N ≤ K) : (W.alloc (.cells #[] 3)).ownsRow N 3 1 (.slice (some ⟨K, 0, none⟩) 0 0) 0 (intCells []) := by
  subst hK; exact own_mono (own_made rfl) hN
theorem row_cut7 {w : World} {b o c m : Nat} {l : List Int} (h : RowAt w (some ⟨b, o, none⟩) (intCells l)) (hm : m ≤ l.length) (hc : l.length ≤ c) : RowAt w (if c = m then some ⟨b, o, none⟩ else some ⟨b, o + m, none⟩) (intCells (l.drop m)) := by
  by_cases e : c = m
  · exact Or.inl (by rw [List.drop_eq_nil_of_le (by omega)]; rfl)
  · rw [if_neg e]
    rcases h with h | ⟨b', o', e', hlt, hc'⟩
    · left; have : l = [] := by simpa [intCells] using h
      rw [this]; simp [intCells]
    · cases e'
      refine Or.inr ⟨b, o + m, rfl, hlt, fun i v hv => ?_⟩
      rw [Nat.add_assoc]
      refine hc' (m + i) v ?_
      rw [show intCells (l.drop m) = (intCells l).drop m from by simp [intCells, List.map_drop], List.getElem?_drop] at hv
      exact hv
theorem intCells_take' (l : List Int) (k : Nat) : intCells (l.take k) = (intCells l).take k := by simp [intCells, List.map_take]
theorem row_take7 {w : World} {a : Option Addr} {m : Nat} {l : List Int} (h : RowAt w a (intCells l)) : RowAt w a (intCells (l.take m)) := by
  rcases h with h | ⟨b, o, rfl, hlt, hc⟩
  · left; have : l = [] := by simpa [intCells] using h
    rw [this]; simp [intCells]
  · refine Or.inr ⟨b, o, rfl, hlt, fun i v hv => hc i v ?_⟩
    rw [intCells_take' l m, List.getElem?_take] at hv
    split at hv
    · exact hv
    · cases hv

set_option maxRecDepth 10000 in
set_option maxHeartbeats 16000000 in
theorem spec_l7Orders (a : Option Addr) (c : Nat) (l : List Nat) (w : World) (ha : RowAt w a (intCells (intsOf l))) (hl : l.length ≤ 7) :
    Calls Try.prog 58 #[.slice a l.length c] w fun e w' => GivesRows w (Mp.natRows (Gr.orders l)) e w' := by
  obtain ⟨i1, hi1, hy0, hy1, hy2⟩ := info_ints_parts
  have Hi1 := Lib.hid hi1; have Hy0 := Lib.hid hy0; have Hy1 := Lib.hid hy1; have Hy2 := Lib.hid hy2
  obtain ⟨j0, hj0, hz0, hz1, hz2⟩ := info_int_parts
  have Hj0 := Lib.hid hj0; have Hz0 := Lib.hid hz0; have Hz1 := Lib.hid hz1; have Hz2 := Lib.hid hz2
  have Ha := Lib.hid ha
  clear hi1 hy0 hy1 hy2 hj0 hz0 hz1 hz2 ha
  obtain ⟨N, hN⟩ : ∃ N, N = w.heap.size := ⟨_, rfl⟩
  have HN := Lib.hid hN
  have hst : GridS ((w.alloc (.cells #[] 3)).alloc (.cells #[.slice (some ⟨w.heap.size, 0, none⟩) 0 0] 27)) N ((w.alloc (.cells #[] 3)).alloc (.cells #[.slice (some ⟨w.heap.size, 0, none⟩) 0 0] 27)).heap.size (some ⟨w.heap.size + 1, 0, none⟩) (Mp.natRows (Gr.ordTo l 0)) := by
    have hb := Blk.new (w.alloc (.cells #[] 3)) 27 #[.slice (some ⟨w.heap.size, 0, none⟩) 0 0]
    rw [show (w.alloc (.cells #[] 3)).heap.size = w.heap.size + 1 from by simp] at hb
    exact ⟨[⟨some ⟨w.heap.size, 0, none⟩, 0, []⟩], rfl, RowIn.of_blk hb (by omega) hb.lt, fun h hh => by rw [List.mem_singleton.1 hh]; exact Or.inl rfl, Apts.one (Nat.le_refl _), fun h hh => by rw [List.mem_singleton.1 hh]; exact ⟨_, _, rfl⟩⟩
  have hst2 : Below N w ((w.alloc (.cells #[] 3)).alloc (.cells #[.slice (some ⟨w.heap.size, 0, none⟩) 0 0] 27)) := ((Below.refl N w).alloc (by omega) _).alloc (by simp; omega) _
  have Hst := Lib.hid hst; have Hst2 := Lib.hid hst2
  clear hst hst2 hN
  go_enter Try.func58, Try.ntmps58
  go_wp2
  go_loopw [3, 4, 5, 6, 7, 8] (fun ov kv _ _ _ _ wr => ∃ k : Nat, k ≤ l.length ∧ kv = .int .i64 k ∧ ∃ ao co, ov = .slice ao (Gr.ordTo l k).length co ∧ Hid (GridS wr N wr.heap.size ao (Mp.natRows (Gr.ordTo l k))) ∧ Hid (Below N w wr) ∧ Hid ((Gr.ordTo l k).length ≤ co ∧ co ≤ maxLen)) (fun _ kv _ _ _ _ _ => l.length - (intOf kv).toNat)
  case atStart => exact ⟨0, by omega, rfl, _, _, rfl, Hst, Hst2, Lib.hid (by show 1 ≤ 1 ∧ 1 ≤ maxLen; unfold maxLen; omega)⟩
  case round =>
    obtain ⟨k, hk, rfl, ao, co, rfl, hgr, hb, hco⟩ := hrel
    obtain ⟨wo, hwo⟩ : ∃ wo, wo = wr := ⟨_, rfl⟩
    subst hwo
    by_cases hlt : k < l.length
    · obtain ⟨hOk, hOn⟩ := Gr.ordTo_len l k hk
      have hfac : Gr.fac k ≤ 5040 := Nat.le_trans (Gr.fac_mono (show k ≤ 7 by omega)) (by decide +kernel)
      have hO1 : Gr.ordTo l (k + 1) = Gr.ordStep (Gr.ordTo l k) k (l.getD k 0) := rfl
      have hx : (intsOf l)[k]? = some ((l.getD k 0 : Nat) : Int) := intsOf_get (by rw [List.getD_eq_getElem?_getD, List.getElem?_eq_getElem hlt]; rfl)
      have Hlt := Lib.hid hlt
      generalize hxd : l.getD k 0 = x at *
      generalize hOd : Gr.ordTo l k = O at *
      have hO5 : O.length ≤ 5040 := by omega
      have HO1 := Lib.hid hO1; have HOk := Lib.hid hOk; have Hx := Lib.hid hx
      have hk7 : (k : Int) ≤ 7 := by omega
      have h0k : (0 : Int) ≤ (k : Int) := by omega
      have h1k : (k : Int) < (l.length : Int) := by omega
      clear hlt hO1 hOk hx hxd hOd hOn hfac
      go_wp2
      go_loopw [5, 6, 7, 8] (fun nv iv _ _ wr => ∃ i : Nat, i ≤ O.length ∧ iv = .int .i64 i ∧ Hid (RowsIn wo wo.heap.size wr nv (Mp.natRows (Gr.stepTo O k x i 0)))) (fun _ iv _ _ _ => O.length - (intOf iv).toNat)
      case atStart => exact ⟨0, Nat.zero_le _, rfl, Lib.hid (RowsIn.made (Below.refl _ _) (Nat.le_refl _))⟩
      case round =>
        obtain ⟨i, hi, rfl, hrows⟩ := hrel
        by_cases hlt2 : i < O.length
        · obtain ⟨o, ho⟩ := get_some hlt2
          have hol := HOk.out o (get_mem ho)
          obtain ⟨bo, oo, ab, ae, ci, rfl, hci, hcell, hrow⟩ := hgr.out.cell (natRows_get ho)
          rw [intsOf_len, hol] at hci hcell
          have hnx := Gr.stepTo_next (k := k) (x := x) ho hol
          have hgd : O.getD i [] = o := by rw [List.getD_eq_getElem?_getD, ho]; rfl
          have Hcell := Lib.hid hcell; have Hrow := Lib.hid hrow; have Hnx := Lib.hid hnx; have Hgd := Lib.hid hgd; have Hol := Lib.hid hol
          have Hlt2 := Lib.hid hlt2
          have c0 := Hcell.out wr (by obtain ⟨_, _, _, _, _, h⟩ := hrows.out; exact h)
          have h0i : (0 : Int) ≤ (i : Int) := by omega
          have h1i : (i : Int) < (O.length : Int) := by omega
          clear hlt2 hcell hrow hnx hgd ho hol
          go_wp2
          clear c0
          go_loopw [5, 7, 8] (fun nv tv _ wr => ∃ j : Nat, j ≤ k + 1 - min 1 k ∧ tv = .int .i64 ((k : Int) - (j : Int)) ∧ Hid (RowsIn wo wo.heap.size wr nv (Mp.natRows (Gr.stepTo O k x i j)))) (fun _ tv _ _ => (intOf tv + 1).toNat)
          case atStart => exact ⟨0, Nat.zero_le _, by simp, hrows⟩
          case round =>
            obtain ⟨j, hj, rfl, hrows⟩ := hrel
            have hmin := fun W => spec_l1Min7 k W (by omega)
            have Hmin := Lib.hid hmin
            clear hmin
            by_cases hlt3 : j < k + 1 - min 1 k
            · have d3 : ((min 1 k : Nat) : Int) ≤ (k : Int) - (j : Int) := by omega
              obtain ⟨p, hp⟩ : ∃ p : Nat, (k : Int) - (j : Int) = (p : Int) := ⟨k - j, by omega⟩
              have hpk : p ≤ k := by omega
              have hpj : o.length - j = p := by have := Hol.out; omega
              have hmore := Gr.stepTo_more O k x i j
              rw [Hgd.out, hpj] at hmore
              have hlnj := Gr.stepTo_len (O := O) (k := k) (x := x) (i := i) (j := j) HOk.out (by omega)
              have hlnb : (O.length + 1) * (k + 1) ≤ 5041 * 8 := Nat.mul_le_mul (by omega) (by omega)
              obtain ⟨hs, e1, hown, hin, hap, hbl⟩ := hrows.out
              obtain ⟨av, cv, rfl⟩ := own_len hown
              rw [Mp.natRows_len] at hown ⊢
              have hwo : wo.heap.size ≤ wr.heap.size := hbl.size
              have hNo : N ≤ wo.heap.size := by have := hb.out.size; have := HN.out; omega
              obtain ⟨bl, ol, rfl, hbll, hxc⟩ := intCells_get? Ha.out Hx.out
              have hcW := fun W (h : Below wr.heap.size wr W) => Hcell.out W (hbl.trans (h.mono hwo))
              have hrW := fun W (h : Below wr.heap.size wr W) => Hrow.out W (hbl.trans (h.mono hwo))
              have hxW : ∀ W, Below wr.heap.size wr W → W.cell? ⟨bl, ol + k, none⟩ = some (.int .i64 (x : Int)) := fun W h => by
                have hbb : Below N w W := (hb.out.trans (hbl.mono hNo)).trans (h.mono (Nat.le_trans hNo hwo))
                rw [hbb.cell (p := ⟨bl, ol + k, none⟩) (by rw [HN.out]; exact hbll)]; exact hxc
              have hxO : ∀ W, Below wo.heap.size wo W → W.cell? ⟨bl, ol + k, none⟩ = some (.int .i64 (x : Int)) := fun W h => by
                have hbb : Below N w W := hb.out.trans (h.mono hNo)
                rw [hbb.cell (p := ⟨bl, ol + k, none⟩) (by rw [HN.out]; exact hbll)]; exact hxc
              have hl1 : (intCells ((intsOf o).take p)).length = p := by rw [intCells_len, List.length_take, intsOf_len, Hol.out]; omega
              have hl2 : (intCells ((intsOf o).drop p)).length = k - p := by rw [intCells_len, List.length_drop, intsOf_len, Hol.out]
              have happ : intCells [] ++ intCells ((intsOf o).take p) ++ [.int .i64 (x : Int)] ++ intCells ((intsOf o).drop p) = intCells (intsOf (Gr.put o x p)) := by
                rw [← intsOf_take, ← intsOf_drop]; exact Gr.put_cells o x p
              have hsum : p + 1 + (k - p) = k + 1 := by omega
              have hr0 : (intCells (intsOf (Gr.put o x p))).length = k + 1 := by rw [← happ]; simp only [List.length_append, hl1, hl2]; simp [intCells]; omega
              obtain ⟨A2, hA2⟩ : ∃ A2, (if ci = p then some (⟨ab, ae, none⟩ : Addr) else some ⟨ab, ae + p, none⟩) = A2 := ⟨_, rfl⟩
              have hrA := fun W (h : Below wr.heap.size wr W) => row_cut7 (m := p) (hrW W h) (by rw [intsOf_len, Hol.out]; exact hpk) (by rw [intsOf_len, Hol.out]; exact hci)
              rw [hA2] at hrA
              have hpush := fun w9 (hb9 : Below wr.heap.size wr w9) ta tc (hf : Fresh w9 wr.heap.size 3 ta (intCells (intsOf (Gr.put o x p)))) (htc : k + 1 ≤ tc) v11 w11 (h11 : w11.ownsRow wo.heap.size 27 1 v11 ((Gr.stepTo O k x i j).length + 1) (hdCells hs ++ [.slice ta (k + 1) tc])) (hg11 : (w9.alloc (.cells #[.slice ta (k + 1) tc] 27)).grownBy w11 (Value.slice av (Gr.stepTo O k x i j).length cv).ownBlock) => (show RowsIn wo wo.heap.size w11 v11 (Mp.natRows (Gr.stepTo O k x i (j + 1))) by
                have hz : (intsOf (Gr.put o x p)).length = k + 1 := by rw [← hr0, intCells_len]
                rw [hmore, show Mp.natRows (Gr.stepTo O k x i j ++ [Gr.put o x p]) = Mp.natRows (Gr.stepTo O k x i j) ++ [intsOf (Gr.put o x p)] from by simp [Mp.natRows, intsOf]]
                refine RowsIn.push (c := tc) (a := ta) (l := intsOf (Gr.put o x p)) e1 (by rw [Mp.natRows_len]; exact hown) hin hap hbl hwo hb9 hf (by rw [hz]; exact htc) (by rw [Mp.natRows_len, hz]; exact h11) hg11)
              have hnow := fun W (h : Below wr.heap.size wr W) => own_keep hown h (fun k hk => (hown.lt k hk).2)
              have hq1 : (Gr.stepTo O k x i j).length + 1 ≤ maxLen := by unfold maxLen; omega
              have hq2 : ((Gr.stepTo O k x i j).length + 1) * 24 ≤ 140737488355328 := by omega
              have HcW := Lib.hid hcW; have HrW := Lib.hid hrW; have HxW := Lib.hid hxW; have Hl1 := Lib.hid hl1; have Hl2 := Lib.hid hl2; have Happ := Lib.hid happ; have Hsum := Lib.hid hsum; have Hr0 := Lib.hid hr0; have HrA := Lib.hid hrA; have Hpush0 := Lib.hid hpush; have Hnow0 := Lib.hid hnow; have Hhwo := Lib.hid hwo; have Hbl := Lib.hid hbl; have HxO := Lib.hid hxO; have Hlo := Lib.hid (fun k hk => (hown.lt k hk).1); have Hlt3 := Lib.hid hlt3
              have q1 := hq1; have q2 := hq2
              have Hp := Lib.hid hp
              clear hcW hrW hxW hxO hl1 hl2 happ hsum hr0 hrA hpush hnow hmore hlnj hlnb hin hap hbl hown e1 hxc hbll hwo hNo hrows hlt3 hpj hq1 hq2
              rw [hp] at d3 ⊢
              clear hp
              generalize (Gr.stepTo O k x i j).length = nl at *
              generalize ((min 1 k : Nat) : Int) = mz at *
              have hpk2 : (p : Int) ≤ (k : Int) := by omega
              have hp0 : (0 : Int) ≤ (p : Int) := by omega
              have hpc : p ≤ ci := by omega
              have hpc2 : (p : Int) ≤ (ci : Int) := by omega
              have hkc2 : (k : Int) ≤ (ci : Int) := by omega
              have hp7 : (p : Int) ≤ 7 := by omega
              have Hmk := Lib.hid (own_madeK (W := wr) rfl (Nat.le_refl _))
              have HbM := Lib.hid (below_alloc7 (o := .cells #[] 3) (Below.refl wr.heap.size wr))
              have hcM := HcW.out _ HbM.out
              have HrM := Lib.hid (HrA.out _ HbM.out)
              have a1 : 0 + p ≤ maxLen := by unfold maxLen; omega
              have a2 : (0 + p) * 8 ≤ 140737488355328 := by omega
              have a3 : p + 1 ≤ maxLen := by unfold maxLen; omega
              have a4 : (p + 1) * 8 ≤ 140737488355328 := by omega
              have a5 : p + 1 + (k - p) ≤ maxLen := by unfold maxLen; omega
              have a6 : (p + 1 + (k - p)) * 8 ≤ 140737488355328 := by omega
              have a7 : 0 + (k - p) ≤ maxLen := by unfold maxLen; omega
              have a8 : (0 + (k - p)) * 8 ≤ 140737488355328 := by omega
              go_wp2_with fail
              refine (Hmin.out _).mono ?_
              rintro e w9 ⟨rfl, hw9⟩
              rw [hw9]; clear hw9 w9
              go_wp2_with (at_builtin; refine append_row rfl (.tmp 35) (.tmp 41) 27 rfl wr.heap.size 3 j0 _ 8 Try.underlying27 Hj0.out Hz0.out Hz1.out Hz2.out (by rfl) _ 0 (intCells []) rfl Hmk.out _ (k - p) _ (intCells ((intsOf o).drop p)) rfl HrM.out Hl2.out (intCells_one _) a7 a8 HbM.out.size ?_; intro v2 w2 hown2 hg2; (try rw [Nat.zero_add] at hown2); have hb2 := Below.grown HbM.out hg2 HbM.out.size (fun k hk => (Hmk.out.lt k hk).1); have hfr2 := own_fresh hown2 Hl2.out; obtain ⟨ba, bc, rfl, hbc, hbf⟩ := hfr2; have Hb2 := Lib.hid hb2; have HTr := Lib.hid hbf.row; clear hown2 hg2 hb2 hbf)
              have HTail := Lib.hid (fun W (h : Below w2.heap.size w2 W) => HTr.out.below h)
              have HRt := Lib.hid (fun W (h : Below w2.heap.size w2 W) => row_take7 (m := p) (HrW.out W (Hb2.out.trans (h.mono Hb2.out.size))))
              have Hnow := Lib.hid (fun W (h : Below w2.heap.size w2 W) => Hnow0.out W (Hb2.out.trans (h.mono Hb2.out.size)))
              have Hnsz := Lib.hid (fun W (o' : Obj) (h : Below w2.heap.size w2 W) => (show wo.heap.size ≤ (W.alloc o').heap.size by have := h.size; have := Hb2.out.size; have := Hhwo.out; simp; omega))
              have Hpush := Lib.hid (fun w9 (h : Below w2.heap.size w2 w9) ta tc (hf : Fresh w9 w2.heap.size 3 ta (intCells (intsOf (Gr.put o x p)))) htc v11 w11 h11 hg11 => Hpush0.out w9 (Hb2.out.trans (h.mono Hb2.out.size)) ta tc (hf.mono Hb2.out.size) htc v11 w11 h11 hg11)
              have HBw : Hid (∀ W, Below w2.heap.size w2 W → Below wo.heap.size wo W) := Lib.hid (fun W h => Hbl.out.trans ((Hb2.out.trans (h.mono Hb2.out.size)).mono Hhwo.out))
              have HK : Hid (∀ W, Below wo.heap.size wo W → W.cell? ⟨bo, oo + i, none⟩ = some (.slice (some ⟨ab, ae, none⟩) k ci) ∧ W.cell? ⟨bl, ol + k, none⟩ = some (.int .i64 (x : Int)) ∧ Below wo.heap.size wo W) := Lib.hid (fun W h => ⟨Hcell.out W h, HxO.out W h, h⟩)
              have HKa : Hid (∀ W o', (W.cell? ⟨bo, oo + i, none⟩ = some (.slice (some ⟨ab, ae, none⟩) k ci) ∧ W.cell? ⟨bl, ol + k, none⟩ = some (.int .i64 (x : Int)) ∧ Below wo.heap.size wo W) → (W.alloc o').cell? ⟨bo, oo + i, none⟩ = some (.slice (some ⟨ab, ae, none⟩) k ci) ∧ (W.alloc o').cell? ⟨bl, ol + k, none⟩ = some (.int .i64 (x : Int)) ∧ Below wo.heap.size wo (W.alloc o')) := Lib.hid (fun W o' h => HK.out _ (below_alloc7 h.2.2))
              have HKd := Lib.hid (HK.out w2.drew (HBw.out _ (Below.drew (Below.refl _ _))))
              have Hb11 : Hid (∀ w9 w11, Below w2.heap.size w2 w9 → ∀ o', (w9.alloc o').grownBy w11 (Value.slice av nl cv).ownBlock → Below wo.heap.size wo w11) := Lib.hid (fun w9 w11 h o' hg => Below.grown (below_alloc7 (HBw.out _ h)) hg (below_alloc7 (HBw.out _ h)).size (fun k hk => Hlo.out k hk))
              have HB1 : Hid (Below w2.heap.size w2 (w2.alloc (.cells #[] 3)).drew) := Lib.hid (Below.drew (below_alloc7 (Below.refl _ _)))
              have HB2 : Hid (Below w2.heap.size w2 ((w2.alloc (.cells #[] 3)).alloc (.cells #[.int .i64 (x : Int)] 3)).drew) := Lib.hid (Below.drew (below_alloc7 (below_alloc7 (Below.refl _ _))))
              have HB3 : Hid (Below w2.heap.size w2 ((w2.alloc (.cells #[.int .i64 (x : Int)] 3)).alloc (.cells #[] 3)).drew) := Lib.hid (Below.drew (below_alloc7 (below_alloc7 (Below.refl _ _))))
              have HB4 : Hid (Below w2.heap.size w2 (w2.alloc (.cells #[.int .i64 (x : Int)] 3)).drew) := Lib.hid (Below.drew (below_alloc7 (Below.refl _ _)))
              have HF1 : Hid ((w2.alloc (.cells #[] 3)).drew.ownsRow w2.heap.size 3 1 (.slice (some ⟨w2.heap.size, 0, none⟩) 0 0) 0 (intCells [])) := Lib.hid (own_madeK (W := w2) rfl (Nat.le_refl _)).drew
              have HF2 : Hid (((w2.alloc (.cells #[] 3)).alloc (.cells #[.int .i64 (x : Int)] 3)).drew.ownsRow w2.heap.size 3 1 (.slice (some ⟨w2.heap.size, 0, none⟩) 0 0) 0 (intCells [])) := Lib.hid ((own_madeK (W := w2) rfl (Nat.le_refl _)).alloc _).drew
              have HF3 : Hid (((w2.alloc (.cells #[.int .i64 (x : Int)] 3)).alloc (.cells #[] 3)).drew.ownsRow w2.heap.size 3 1 (.slice (some ⟨w2.heap.size + 1, 0, none⟩) 0 0) 0 (intCells [])) := Lib.hid (own_madeK (W := w2.alloc (.cells #[.int .i64 (x : Int)] 3)) (by simp) (by omega)).drew
              have HL2 : Hid (∀ W, ((w2.alloc (.cells #[] 3)).alloc (.cells #[.int .i64 (x : Int)] 3)).drew.grownBy W (Value.slice (some ⟨w2.heap.size, 0, none⟩) 0 0).ownBlock → RowAt W (some ⟨w2.heap.size + 1, 0, none⟩) [.int .i64 (x : Int)]) := Lib.hid (fun W h => by
                have hk := Blk.new (w2.alloc (.cells #[] 3)) 3 #[.int .i64 (x : Int)]
                rw [show (w2.alloc (.cells #[] 3)).heap.size = w2.heap.size + 1 from by simp] at hk
                exact (hk.drew.grown h (fun e => by have := own_block e.symm; omega)).row)
              have HL3 : Hid (∀ W, ((w2.alloc (.cells #[.int .i64 (x : Int)] 3)).alloc (.cells #[] 3)).drew.grownBy W (Value.slice (some ⟨w2.heap.size + 1, 0, none⟩) 0 0).ownBlock → RowAt W (some ⟨w2.heap.size, 0, none⟩) [.int .i64 (x : Int)]) := Lib.hid (fun W h => by
                have hk : Blk (w2.alloc (.cells #[.int .i64 (x : Int)] 3)) w2.heap.size 3 #[.int .i64 (x : Int)] := Blk.new w2 3 #[.int .i64 (x : Int)]
                exact ((hk.alloc (.cells #[] 3)).drew.grown h (fun e => by have := own_block e.symm; omega)).row)
              clear hcM
              go_wp2
              go_region_held3 (fun w' => w'.cell? ⟨bo, oo + i, none⟩ = some (.slice (some ⟨ab, ae, none⟩) k ci) ∧ w'.cell? ⟨bl, ol + k, none⟩ = some (.int .i64 (x : Int)) ∧ Below wo.heap.size wo w') (first | (with_reducible assumption) | (with_reducible exact HKd.out) | (with_reducible exact HK.out _ (HBw.out _ HB1.out)) | (with_reducible exact HK.out _ (HBw.out _ HB4.out)) | (with_reducible exact HK.out _ (HBw.out _ HB2.out)) | (with_reducible exact HK.out _ (HBw.out _ HB3.out)) | (with_reducible exact HKa.out _ _ (by assumption)) | (with_reducible exact HK.out _ (by assumption)) | (with_reducible exact HK.out _ (HBw.out _ (by assumption)))) (first
                | (refine step_append_row rfl (.tmp 44) (.tmp 50) 27 rfl w2.heap.size 3 j0 _ 8 Try.underlying27 Hj0.out Hz0.out Hz1.out Hz2.out (by rfl) _ 0 (intCells []) (by rfl) HF1.out _ p _ (intCells ((intsOf o).take p)) (by rfl) (HRt.out _ HB1.out) Hl1.out (intCells_one _) a1 a2 HB1.out.size ?_; intro v5 w5 hown5 hg5; (try rw [Nat.zero_add] at hown5); have hb5 := Below.grown HB1.out hg5 HB1.out.size (fun k hk => (HF1.out.lt k hk).1); obtain ⟨av5, cv5, rfl⟩ := own_len hown5)
                | (refine step_append_row rfl (.tmp 44) (.tmp 50) 27 rfl w2.heap.size 3 j0 _ 8 Try.underlying27 Hj0.out Hz0.out Hz1.out Hz2.out (by rfl) _ 0 (intCells []) (by rfl) HF2.out _ p _ (intCells ((intsOf o).take p)) (by rfl) (HRt.out _ HB2.out) Hl1.out (intCells_one _) a1 a2 HB2.out.size ?_; intro v5 w5 hown5 hg5; (try rw [Nat.zero_add] at hown5); have hb5 := Below.grown HB2.out hg5 HB2.out.size (fun k hk => (HF2.out.lt k hk).1); have hlit5 := HL2.out _ hg5; obtain ⟨av5, cv5, rfl⟩ := own_len hown5)
                | (refine step_append_row rfl (.tmp 44) (.tmp 50) 27 rfl w2.heap.size 3 j0 _ 8 Try.underlying27 Hj0.out Hz0.out Hz1.out Hz2.out (by rfl) _ 0 (intCells []) (by rfl) HF3.out _ p _ (intCells ((intsOf o).take p)) (by rfl) (HRt.out _ HB3.out) Hl1.out (intCells_one _) a1 a2 HB3.out.size ?_; intro v5 w5 hown5 hg5; (try rw [Nat.zero_add] at hown5); have hb5 := Below.grown HB3.out hg5 HB3.out.size (fun k hk => (HF3.out.lt k hk).1); have hlit5 := HL3.out _ hg5; obtain ⟨av5, cv5, rfl⟩ := own_len hown5)
                | (refine step_append_row rfl (.tmp 51) (.tmp 56) 27 rfl w2.heap.size 3 j0 _ 8 Try.underlying27 Hj0.out Hz0.out Hz1.out Hz2.out (by rfl) _ _ _ (by rfl) (hown5.alloc _) _ 1 _ [.int .i64 (x : Int)] (by rfl) (Blk.new w5 3 #[.int .i64 (x : Int)]).row rfl (intCells_one [(x : Int)]) a3 a4 (below_alloc7 hb5).size ?_; intro v7 w7 hown7 hg7; have hb7 := Below.grown (below_alloc7 hb5) hg7 (below_alloc7 hb5).size (fun k hk => (hown5.lt k hk).1); obtain ⟨av7, cv7, rfl⟩ := own_len hown7)
                | (refine step_append_row rfl (.tmp 51) (.tmp 56) 27 rfl w2.heap.size 3 j0 _ 8 Try.underlying27 Hj0.out Hz0.out Hz1.out Hz2.out (by rfl) _ _ _ (by rfl) hown5 _ 1 _ [.int .i64 (x : Int)] (by rfl) hlit5 rfl (intCells_one [(x : Int)]) a3 a4 hb5.size ?_; intro v7 w7 hown7 hg7; have hb7 := Below.grown hb5 hg7 hb5.size (fun k hk => (hown5.lt k hk).1); obtain ⟨av7, cv7, rfl⟩ := own_len hown7)
                | (refine step_append_row rfl (.tmp 57) (.tmp 58) 27 rfl w2.heap.size 3 j0 _ 8 Try.underlying27 Hj0.out Hz0.out Hz1.out Hz2.out (by rfl) _ _ _ (by rfl) hown7 _ (k - p) _ (intCells ((intsOf o).drop p)) (by rfl) (HTail.out _ hb7) Hl2.out (intCells_one _) a5 a6 hb7.size ?_; intro v9 w9 hown9 hg9; have hb9 := Below.grown hb7 hg9 hb7.size (fun k hk => (hown7.lt k hk).1); rw [Happ.out, Hsum.out] at hown9; have hfr9 := own_fresh hown9 Hr0.out; obtain ⟨ta, tc, rfl, htc, hf9⟩ := hfr9)
                | (refine step_append_row rfl (.tmp 43) (.tmp 60) 22 rfl wo.heap.size 27 i1 _ 24 Try.underlying22 Hi1.out Hy0.out Hy1.out Hy2.out (by rfl) _ _ _ (by rfl) ((Hnow.out _ hb9).alloc _) _ 1 _ [.slice ta (k + 1) tc] (by rfl) (Blk.new w9 27 #[.slice ta (k + 1) tc]).row rfl (fun u hu => by rw [List.mem_singleton.1 hu]; rfl) q1 q2 (Hnsz.out _ _ hb9) ?_; intro v11 w11 hown11 hg11; have hb11 := Hb11.out w9 w11 hb9 _ hg11; obtain ⟨av11, cv11, rfl⟩ := own_len hown11; have HP := Lib.hid (Hpush.out w9 hb9 ta tc hf9 htc _ w11 hown11 hg11)))
              all_goals
                go_wp2
                go_roundw
                case rel => exact ⟨j + 1, by have := Hlt3.out; omega, by rw [show (k : Int) - ((j + 1 : Nat) : Int) = (p : Int) - 1 by have := Hp.out; omega], HP⟩
                case measure => have := Hp.out; simp [intOf] <;> omega
            · obtain rfl : j = k + 1 - min 1 k := by omega
              have d3 : ¬ ((min 1 k : Nat) : Int) ≤ (k : Int) - ((k + 1 - min 1 k : Nat) : Int) := by omega
              rw [Hnx.out] at hrows
              clear hlt3 hj
              generalize (k : Int) - ((k + 1 - min 1 k : Nat) : Int) = tz at *
              generalize ((min 1 k : Nat) : Int) = mz at *
              go_wp2_with fail
              refine (Hmin.out _).mono ?_
              rintro e w9 ⟨rfl, hw9⟩
              rw [hw9]; clear hw9 w9
              go_wp2
              go_roundw
              case rel => exact ⟨i + 1, Hlt2.out, by go_num, hrows⟩
              case measure => have := Hlt2.out; simp [intOf] <;> omega
        · obtain rfl : i = O.length := by omega
          have hrw := hrows.out
          rw [Gr.stepTo_end, ← HO1.out] at hrw
          obtain ⟨a2, c2, rfl, hg2, hb2, hc1, hc2⟩ := hrw.gridIn
          have hne : ∀ r ∈ Mp.natRows (Gr.ordTo l (k + 1)), r ≠ [] := fun r hr => by
            unfold Mp.natRows at hr
            obtain ⟨o, ho, rfl⟩ := List.mem_map.1 hr
            have := (Gr.ordTo_len l (k + 1) Hlt.out).1 o ho
            intro e
            have e2 := congrArg List.length e
            simp [this] at e2
          have hNo : N ≤ wo.heap.size := by have := hb.out.size; have := HN.out; omega
          have Hg2 := Lib.hid ((GridS.of hg2 hne))
          have Hb2 := Lib.hid (hb.out.trans (hb2.mono hNo))
          have hlen : (Mp.natRows (Gr.ordTo l (k + 1))).length = (Gr.ordTo l (k + 1)).length := Mp.natRows_len _
          rw [hlen] at hc1 ⊢
          have Hc := Lib.hid (And.intro hc1 hc2)
          clear hc1 hc2
          clear hrw hg2 hb2 hne hlt2 hlen
          go_wp2
          go_roundw
          case rel => exact ⟨k + 1, Hlt.out, by go_num, _, _, rfl, Lib.hid (by
            obtain ⟨hs, e1, e2, e3, e4, e5⟩ := Hg2.out
            exact ⟨hs, e1, e2.mono hNo (Nat.le_refl _), fun h hh => (e3 h hh).mono hNo (Nat.le_refl _), e4, e5⟩), Hb2, Hc⟩
          case measure => have := Hlt.out; simp [intOf] <;> omega
    · obtain rfl : k = l.length := by omega
      clear hlt
      go_wp2
      go_ret
      have hg := hgr.out.gridIn
      rw [HN.out] at hg
      have hc := hco.out
      exact ⟨_, _, by rw [Mp.natRows_len]; rfl, by rw [Mp.natRows_len]; exact hc.1, hc.2, hg, by have := hb.out; rw [HN.out] at this; exact this⟩
end Go.Proofs.Ytpgdmbolckogcaa
