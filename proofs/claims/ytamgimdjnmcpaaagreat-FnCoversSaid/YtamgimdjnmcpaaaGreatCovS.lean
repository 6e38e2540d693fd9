/-
  The walk of the model's list of all orders. The library's Insert of one integer into a row of the call's own; Clone of a nil slice. The walk of the program's list of all orders. The walks of SheetSymmetries, the program's and the model's. The walk of the model's SheetSymmetries.
-/
import Derived.Test.YtamgimdjnmcpaaaGreatBase
import Derived.Test.YtamgimdjnmcpaaaGreatSlice
import Derived.Test.YtamgimdjnmcpaaaGreatIntRow
import Derived.Test.YtamgimdjnmcpaaaGreatInts
import Derived.Test.YtamgimdjnmcpaaaGreatOwn
import Derived.Test.YtamgimdjnmcpaaaGreatAppend
import Derived.Test.YtamgimdjnmcpaaaGreatGrid
import Derived.Test.YtamgimdjnmcpaaaGreatGridWalk
import Derived.Test.YtamgimdjnmcpaaaGreatGridRows
import Derived.Test.YtamgimdjnmcpaaaGreatGridS
import Derived.Test.YtamgimdjnmcpaaaGreatClass
import Derived.Test.YtamgimdjnmcpaaaGreatLab
import Derived.Test.YtamgimdjnmcpaaaGreatMap
import Derived.Test.YtamgimdjnmcpaaaGreatMapTopo
import Derived.Test.YtamgimdjnmcpaaaGreatCov
import Derived.Deep.QuietTactic
import Derived.BigQuiet
import Derived.StillTailTactics
import Derived.Test.YtamgimdjnmcpaaaGreatShelfIns
import Derived.Test.YtamgimdjnmcpaaaGreatPut
import Derived.Test.YtamgimdjnmcpaaaGreatMapB
import Derived.Test.YtamgimdjnmcpaaaGreatWord
import Derived.Test.YtamgimdjnmcpaaaGreatMapA
import Derived.Test.YtamgimdjnmcpaaaGreatEnds
import Derived.Test.YtamgimdjnmcpaaaGreatCovA
namespace Go.Proofs.YtamgimdjnmcpaaaGreat
open Go.RowKit

namespace Cv
theorem put_len (o : List Nat) {x p : Nat} (hp : p ≤ o.length) : (Gr.put o x p).length = o.length + 1 := by
  have := (Gr.put_perm o x p).length_eq; simpa using this
theorem put_cells (o : List Nat) (x p : Nat) : intCells (intsOf (o.take p)) ++ [.int .i64 ((x : Nat) : Int)] ++ intCells (intsOf (o.drop p)) = intCells (intsOf (Gr.put o x p)) := by
  unfold Gr.put; simp [intCells, intsOf]
theorem all_few {n : Nat} (h : n ≤ 5) : (all n).length ≤ 120 := by rw [all_len]; exact Nat.le_trans (Gr.fac_mono h) (by decide +kernel)
theorem natRows_more (C : List (List Nat)) (c : List Nat) : Mp.natRows (C ++ [c]) = Mp.natRows C ++ [intsOf c] := by simp [Mp.natRows, intsOf]
theorem natRows_size (C : List (List Nat)) : (Mp.natRows C).length = C.length := by simp [Mp.natRows]
end Cv

set_option maxRecDepth 10000 in
set_option maxHeartbeats 8000000 in
theorem spec_l9All (n : Nat) (w : World) (hn : n ≤ 5) :
    Calls Tryz.prog 61 #[.int .i64 (n : Int)] w fun e w' => GivesRows w (Mp.natRows (Cv.all n)) e w' := by
  obtain ⟨i1, hi1, hy0, hy1, hy2⟩ := info_ints_parts
  have Hi1 := Lib.hid hi1; have Hy0 := Lib.hid hy0; have Hy1 := Lib.hid hy1; have Hy2 := Lib.hid hy2
  obtain ⟨j0, hj0, hz0, hz1, hz2⟩ := info_int_parts
  have Hj0 := Lib.hid hj0; have Hz0 := Lib.hid hz0; have Hz1 := Lib.hid hz1; have Hz2 := Lib.hid hz2
  clear hi1 hy0 hy1 hy2 hj0 hz0 hz1 hz2
  obtain ⟨N, hN⟩ : ∃ N, N = w.heap.size := ⟨_, rfl⟩
  have HN := Lib.hid hN
  have hst : GridS ((w.alloc (.cells #[] 3)).alloc (.cells #[.slice (some ⟨w.heap.size, 0, none⟩) 0 0] 30)) N ((w.alloc (.cells #[] 3)).alloc (.cells #[.slice (some ⟨w.heap.size, 0, none⟩) 0 0] 30)).heap.size (some ⟨w.heap.size + 1, 0, none⟩) (Mp.natRows (Cv.all 0)) := by
    have hb := Blk.new (w.alloc (.cells #[] 3)) 30 #[.slice (some ⟨w.heap.size, 0, none⟩) 0 0]
    rw [show (w.alloc (.cells #[] 3)).heap.size = w.heap.size + 1 from by simp] at hb
    exact ⟨[⟨some ⟨w.heap.size, 0, none⟩, 0, []⟩], rfl, RowIn.of_blk hb (by omega) hb.lt, fun h hh => by rw [List.mem_singleton.1 hh]; exact Or.inl rfl, Apts.one (Nat.le_refl _), fun h hh => by rw [List.mem_singleton.1 hh]; exact ⟨_, _, rfl⟩⟩
  have hst2 : Below N w ((w.alloc (.cells #[] 3)).alloc (.cells #[.slice (some ⟨w.heap.size, 0, none⟩) 0 0] 30)) := ((Below.refl N w).alloc (by omega) _).alloc (by simp; omega) _
  have Hst := Lib.hid hst; have Hst2 := Lib.hid hst2
  clear hst hst2 hN
  go_enter Tryz.func61, Tryz.ntmps61
  go_wp2
  go_loopw [3, 4, 5, 6, 7, 8] (fun ov kv _ _ _ _ wr => ∃ k : Nat, k ≤ n ∧ kv = .int .i64 k ∧ ∃ ao co, ov = .slice ao (Cv.all k).length co ∧ Hid (GridS wr N wr.heap.size ao (Mp.natRows (Cv.all k))) ∧ Hid (Below N w wr) ∧ Hid ((Cv.all k).length ≤ co ∧ co ≤ maxLen)) (fun _ kv _ _ _ _ _ => n - (intOf kv).toNat)
  case atStart => exact ⟨0, by omega, rfl, _, _, rfl, Hst, Hst2, Lib.hid (by show 1 ≤ 1 ∧ 1 ≤ maxLen; unfold maxLen; omega)⟩
  case round =>
    obtain ⟨k, hk, rfl, ao, co, rfl, hgr, hb, hco⟩ := hrel
    obtain ⟨wo, hwo⟩ : ∃ wo, wo = wr := ⟨_, rfl⟩
    subst hwo
    by_cases hlt : k < n
    · have hO5 := Cv.all_few (show k ≤ 5 by omega)
      have hOk : ∀ o ∈ Cv.all k, o.length = k := fun o ho => Cv.all_row ho
      have hO1 : Cv.all (k + 1) = Cv.allStep (Cv.all k) k := rfl
      have Hlt := Lib.hid hlt
      generalize hOd : Cv.all k = O at *
      have HO1 := Lib.hid hO1; have HOk := Lib.hid hOk
      have hk5 : (k : Int) ≤ 5 := by omega
      have h0k : (0 : Int) ≤ (k : Int) := by omega
      have dlt : decide (k < n) = true := decide_eq_true hlt
      clear hlt hO1 hOk hOd
      go_wp2
      go_loopw [5, 6, 7, 8] (fun nv iv _ _ wr => ∃ i : Nat, i ≤ O.length ∧ iv = .int .i64 i ∧ Hid (RowsIn wo wo.heap.size wr nv (Mp.natRows (Cv.allTo O k i 0)))) (fun _ iv _ _ _ => O.length - (intOf iv).toNat)
      case atStart => exact ⟨0, Nat.zero_le _, rfl, Lib.hid (RowsIn.made (Below.refl _ _) (Nat.le_refl _))⟩
      case round =>
        obtain ⟨i, hi, rfl, hrows⟩ := hrel
        by_cases hlt2 : i < O.length
        · obtain ⟨o, ho⟩ := get_some hlt2
          have hol := HOk.out o (get_mem ho)
          obtain ⟨bo, oo, ab, ae, ci, rfl, hci, hcell, hrow⟩ := hgr.out.cell (natRows_get ho)
          rw [intsOf_len, hol] at hci hcell
          have hnx := Cv.allTo_next (x := k) ho
          have hgd : O.getD i [] = o := by rw [List.getD_eq_getElem?_getD, ho]; rfl
          have Hcell := Lib.hid hcell; have Hrow := Lib.hid hrow; have Hnx := Lib.hid hnx; have Hgd := Lib.hid hgd; have Hol := Lib.hid hol
          have Hlt2 := Lib.hid hlt2
          have h0i : (0 : Int) ≤ (i : Int) := by omega
          have h1i : (i : Int) < (O.length : Int) := by omega
          clear hlt2 hcell hrow hnx hgd ho hol
          go_wp2
          go_loopw [5, 7, 8] (fun nv tv _ wr => ∃ j : Nat, j ≤ k + 1 ∧ tv = .int .i64 j ∧ Hid (RowsIn wo wo.heap.size wr nv (Mp.natRows (Cv.allTo O k i j)))) (fun _ tv _ _ => k + 1 - (intOf tv).toNat)
          case atStart => exact ⟨0, Nat.zero_le _, rfl, hrows⟩
          case round =>
            obtain ⟨p, hp, rfl, hrows⟩ := hrel
            obtain ⟨hs, e1, hown, hin, hap, hbl⟩ := hrows.out
            have hwo : wo.heap.size ≤ wr.heap.size := hbl.size
            have c0 := Hcell.out wr hbl
            by_cases hlt3 : p < k + 1
            · have d3 : (p : Int) ≤ (k : Int) := by omega
              have hpk : p ≤ k := by omega
              have hmore := Cv.allTo_more O k i p
              rw [Hgd.out] at hmore
              have hlnj := Cv.allTo_len (O := O) (x := k) (i := i) (j := p) (by omega)
              have hlnb : (O.length + 1) * (k + 1) ≤ 121 * 6 := Nat.mul_le_mul (by omega) (by omega)
              obtain ⟨av, cv, rfl⟩ := own_len hown
              rw [Cv.natRows_size] at hown ⊢
              have hrW := fun W (h : Below wr.heap.size wr W) => Hrow.out W (hbl.trans (h.mono hwo))
              have hcW := fun W (h : Below wr.heap.size wr W) => Hcell.out W (hbl.trans (h.mono hwo))
              have hl1 : (intCells ((intsOf o).take p)).length = p := by rw [intCells_len, List.length_take, intsOf_len, Hol.out]; omega
              have hl2 : (intCells ((intsOf o).drop p)).length = k - p := by rw [intCells_len, List.length_drop, intsOf_len, Hol.out]
              have happ : intCells ((intsOf o).take p) ++ [.int .i64 (k : Int)] ++ intCells ((intsOf o).drop p) = intCells (intsOf (Gr.put o k p)) := by
                rw [← intsOf_take, ← intsOf_drop]; exact Cv.put_cells o k p
              have hpl : (intsOf (Gr.put o k p)).length = k + 1 := by rw [intsOf_len, Cv.put_len o (by rw [Hol.out]; exact hpk), Hol.out]
              obtain ⟨A2, hA2⟩ : ∃ A2, (if ci = p then some (⟨ab, ae, none⟩ : Addr) else some ⟨ab, ae + p, none⟩) = A2 := ⟨_, rfl⟩
              have hrA := fun W (h : Below wr.heap.size wr W) => row_cut7 (m := p) (hrW W h) (by rw [intsOf_len, Hol.out]; exact hpk) (by rw [intsOf_len, Hol.out]; exact hci)
              rw [hA2] at hrA
              have Hmk := Lib.hid (own_made (w := wr) rfl)
              have HbM := Lib.hid (below_alloc7 (o := .cells #[] 3) (Below.refl wr.heap.size wr))
              have HrM := Lib.hid (hrA _ HbM.out)
              have hpush := fun w9 (hb9 : Below wr.heap.size wr w9) ta tc (hf : Fresh w9 wr.heap.size 3 ta (intCells (intsOf (Gr.put o k p)))) (htc : k + 1 ≤ tc) v11 w11 (h11 : w11.ownsRow wo.heap.size 30 1 v11 ((Cv.allTo O k i p).length + 1) (hdCells hs ++ [.slice ta (k + 1) tc])) (hg11 : (w9.alloc (.cells #[.slice ta (k + 1) tc] 30)).grownBy w11 (Value.slice av (Cv.allTo O k i p).length cv).ownBlock) => (show RowsIn wo wo.heap.size w11 v11 (Mp.natRows (Cv.allTo O k i (p + 1))) by
                rw [hmore, Cv.natRows_more]
                refine RowsIn.push (c := tc) (a := ta) (l := intsOf (Gr.put o k p)) e1 (by rw [Cv.natRows_size]; exact hown) hin hap hbl hwo hb9 hf (by rw [hpl]; exact htc) (by rw [Cv.natRows_size, hpl]; exact h11) hg11)
              have hnow := fun W (h : Below wr.heap.size wr W) => own_keep hown h (fun k hk => (hown.lt k hk).2)
              have q1 : (Cv.allTo O k i p).length + 1 ≤ maxLen := by unfold maxLen; omega
              have q2 : ((Cv.allTo O k i p).length + 1) * 24 ≤ 140737488355328 := by omega
              have HrW := Lib.hid hrW; have Hl1 := Lib.hid hl1; have Hl2 := Lib.hid hl2; have Happ := Lib.hid happ; have Hpl := Lib.hid hpl; have Hpush := Lib.hid hpush; have Hnow := Lib.hid hnow; have HcW := Lib.hid hcW
              have hr0 : (intCells (intsOf (Gr.put o k p))).length = k + 1 := by rw [intCells_len]; exact hpl
              have Hr0 := Lib.hid hr0
              clear hrW hl1 hl2 happ hpl hrA hpush hnow hmore hlnj hlnb hin hap hown e1 hrows hlt3 hcW hr0
              generalize (Cv.allTo O k i p).length = nl at *
              have hp0 : (0 : Int) ≤ (p : Int) := by omega
              have hpc : p ≤ ci := by omega
              have hpc2 : (p : Int) ≤ (ci : Int) := by omega
              have a1 : 0 + p ≤ maxLen := by unfold maxLen; omega
              have a2 : (0 + p) * 8 ≤ 140737488355328 := by omega
              have a3 : p + 1 ≤ maxLen := by unfold maxLen; omega
              have a4 : (p + 1) * 8 ≤ 140737488355328 := by omega
              have a5 : p + 1 + (k - p) ≤ maxLen := by unfold maxLen; omega
              have a6 : (p + 1 + (k - p)) * 8 ≤ 140737488355328 := by omega
              have a7 : 0 + (k - p) ≤ maxLen := by unfold maxLen; omega
              have a8 : (0 + (k - p)) * 8 ≤ 140737488355328 := by omega
              have esum : p + 1 + (k - p) = k + 1 := by omega
              have Hsum := Lib.hid esum
              have c1 := HcW.out _ HbM.out
              clear esum
              go_wp2_with (first
                | (at_builtin; refine append_row rfl (.tmp 32) (.tmp 38) 30 rfl wr.heap.size 3 j0 _ 8 Tryz.underlying30 Hj0.out Hz0.out Hz1.out Hz2.out (by rfl) _ 0 (intCells []) rfl Hmk.out _ (k - p) _ (intCells ((intsOf o).drop p)) rfl HrM.out Hl2.out (intCells_one _) a7 a8 HbM.out.size ?_; intro v2 w2 hown2 hg2
                   rw [Nat.zero_add] at hown2
                   have hb2 := Below.grown HbM.out hg2 HbM.out.size (fun k hk => (Hmk.out.lt k hk).1)
                   obtain ⟨ba, bc, rfl, hbr⟩ := own_row hown2 Hl2.out
                   have Hb2 := Lib.hid hb2; have Hrest := Lib.hid (show w2.ownsRow wr.heap.size 3 1 (.slice ba (k - p) bc) (k - p) (intCells ((intsOf o).drop p)) from hown2)
                   have c2 := HcW.out w2 hb2
                   have hmk2 := own_made (w := w2) rfl
                   have Hmk2 := Lib.hid hmk2
                   have HbM2 := Lib.hid (below_alloc7 (o := .cells #[] 3) (Below.refl w2.heap.size w2))
                   have c3 := HcW.out (w2.alloc (.cells #[] 3)) (hb2.trans (HbM2.out.mono hb2.size))
                   have Hrt := Lib.hid (row_take7 (m := p) (HrW.out (w2.alloc (.cells #[] 3)) (hb2.trans (HbM2.out.mono hb2.size))))
                   clear hown2 hg2 hb2 hbr hmk2)
                | (at_builtin; refine append_row rfl (.tmp 41) (.tmp 47) 30 rfl w2.heap.size 3 j0 _ 8 Tryz.underlying30 Hj0.out Hz0.out Hz1.out Hz2.out (by rfl) _ 0 (intCells []) rfl Hmk2.out _ p _ (intCells ((intsOf o).take p)) rfl Hrt.out Hl1.out (intCells_one _) a1 a2 HbM2.out.size ?_; intro v5 w5 hown5 hg5
                   rw [Nat.zero_add] at hown5
                   have hb5 := Below.grown HbM2.out hg5 HbM2.out.size (fun k hk => (Hmk2.out.lt k hk).1)
                   obtain ⟨av5, cv5, rfl⟩ := own_len hown5
                   have Hown5 := Lib.hid (show w5.ownsRow w2.heap.size 3 1 (.slice av5 p cv5) p (intCells ((intsOf o).take p)) from hown5); have Hb5 := Lib.hid hb5
                   have hz5 : w2.heap.size ≤ w5.heap.size := hb5.size
                   clear hown5 hg5 hb5)
                | (at_builtin; refine append_one rfl (.tmp 48) (.tmp 50) 30 rfl w2.heap.size 3 j0 _ 8 Tryz.underlying30 Hj0.out Hz0.out Hz1.out Hz2.out (by rfl) _ _ _ rfl Hown5.out (by rfl) _ rfl a3 a4 hz5 ?_; intro v7 w7 hown7 hg7 _
                   have hb7 := Below.grown (Hb5.out.alloc hz5 _) hg7 (by simp; omega) (fun k hk => (Hown5.out.lt k hk).1)
                   obtain ⟨av7, cv7, rfl⟩ := own_len hown7
                   have Hown7 := Lib.hid hown7; have Hb7 := Lib.hid hb7
                   obtain ⟨xa, xc, ex, hxr⟩ := own_row (own_keep Hrest.out hb7 (fun k hk => (Hrest.out.lt k hk).2)) Hl2.out
                   cases ex
                   have Hxr := Lib.hid hxr
                   have hz7 : w2.heap.size ≤ w7.heap.size := hb7.size
                   clear hown7 hg7 hb7 hxr)
                | (at_builtin; refine append_row rfl (.tmp 51) (.tmp 52) 30 rfl w2.heap.size 3 j0 _ 8 Tryz.underlying30 Hj0.out Hz0.out Hz1.out Hz2.out (by rfl) _ _ _ rfl Hown7.out _ (k - p) _ (intCells ((intsOf o).drop p)) rfl Hxr.out Hl2.out (intCells_one _) a5 a6 hz7 ?_; intro v9 w9 hown9 hg9
                   have hb9 := Below.grown Hb7.out hg9 hz7 (fun k hk => (Hown7.out.lt k hk).1)
                   rw [Happ.out, Hsum.out] at hown9
                   obtain ⟨ta, tc, rfl, htc, hf9⟩ := own_fresh hown9 Hr0.out
                   have hbw9 := Hb2.out.trans (hb9.mono Hb2.out.size)
                   have Hbw9 := Lib.hid hbw9; have Hf9 := Lib.hid (hf9.mono Hb2.out.size); have Htc := Lib.hid htc
                   have Hnow9 := Lib.hid (Hnow.out w9 hbw9)
                   have hz9 : wo.heap.size ≤ w9.heap.size := Nat.le_trans hwo hbw9.size
                   clear hown9 hg9 hb9 hf9 htc hbw9)
                | (at_builtin; refine append_one rfl (.tmp 40) (.tmp 54) 24 rfl wo.heap.size 30 i1 _ 24 Tryz.underlying24 Hi1.out Hy0.out Hy1.out Hy2.out (by rfl) _ _ _ rfl Hnow9.out (by rfl) _ rfl q1 q2 hz9 ?_; intro v11 w11 hown11 hg11 _
                   obtain ⟨av11, cv11, rfl⟩ := own_len hown11
                   have HP := Lib.hid (Hpush.out w9 Hbw9.out ta tc Hf9.out Htc.out _ w11 hown11 hg11)
                   clear hown11 hg11))
              go_roundw
              case rel => exact ⟨p + 1, by omega, by go_num, HP⟩
              case measure => simp [intOf]; omega
            · obtain rfl : p = k + 1 := by omega
              have d3 : ¬ ((k + 1 : Nat) : Int) ≤ (k : Int) := by omega
              rw [Hnx.out] at hrows
              clear hlt3 hp hown hin hap e1
              generalize ((k + 1 : Nat) : Int) = z at *
              go_wp2
              go_roundw
              case rel => exact ⟨i + 1, Hlt2.out, by go_num, hrows⟩
              case measure => have := Hlt2.out; simp [intOf] <;> omega
        · obtain rfl : i = O.length := by omega
          have hrw := hrows.out
          rw [Cv.allTo_end, ← HO1.out] at hrw
          obtain ⟨a2, c2, rfl, hg2, hb2, hc1, hc2⟩ := hrw.gridIn
          have hne : ∀ r ∈ Mp.natRows (Cv.all (k + 1)), r ≠ [] := fun r hr => by
            unfold Mp.natRows at hr
            obtain ⟨o, ho, rfl⟩ := List.mem_map.1 hr
            have := Cv.all_row ho
            intro e
            have e2 := congrArg List.length e
            simp [this] at e2
          have hNo : N ≤ wo.heap.size := by have := hb.out.size; have := HN.out; omega
          have Hg2 := Lib.hid ((GridS.of hg2 hne))
          have Hb2 := Lib.hid (hb.out.trans (hb2.mono hNo))
          have hlen : (Mp.natRows (Cv.all (k + 1))).length = (Cv.all (k + 1)).length := Cv.natRows_size _
          rw [hlen] at hc1 ⊢
          have Hc := Lib.hid (And.intro hc1 hc2)
          clear hc1 hc2
          clear hrw hg2 hb2 hne hlt2 hlen
          go_wp2
          go_roundw
          case rel => exact ⟨k + 1, Hlt.out, by go_num, _, _, rfl, Lib.hid (by
            obtain ⟨hs, e1, e2, e3, e4, e5⟩ := Hg2.out
            exact ⟨hs, e1, e2.mono hNo (Nat.le_refl _), fun h hh => (e3 h hh).mono hNo (Nat.le_refl _), e4, e5⟩), Hb2, Hc⟩
          case measure => have := Hlt.out; simp [intOf] <;> omega
    · obtain rfl : n = k := by omega
      clear hlt
      go_wp2
      go_ret
      have hg := hgr.out.gridIn
      rw [HN.out] at hg
      have hc := hco.out
      exact ⟨_, _, by rw [Cv.natRows_size]; rfl, by rw [Cv.natRows_size]; exact hc.1, hc.2, hg, by have := hb.out; rw [HN.out] at this; exact this⟩
end Go.Proofs.YtamgimdjnmcpaaaGreat
namespace Go.Proofs.YtamgimdjnmcpaaaGreat
open Go.RowKit

namespace Pt
/-- One element more, in a block that has room behind the others. -/
theorem ins_get (cur : Array Value) (cs : List Value) (x : Value) (i n : Nat) (hl : cs.length = n) (hi : i ≤ n) (hsz : n + 1 ≤ cur.size) (hcur : ∀ j, j < i → cur[j]? = cs[j]?) (j : Nat) (hj : j < n + 1) :
    (putAll (putAll cur (i + 1) (cs.drop i)) i [x])[j]? = (cs.take i ++ [x] ++ cs.drop i)[j]? := by
  rw [putAll_get, putAll_size, putAll_get, List.length_drop, hl]
  rcases Nat.lt_trichotomy j i with h | h | h
  · rw [if_neg (by simp; omega), if_neg (by omega), hcur j h, List.append_assoc, List.getElem?_append_left (by rw [List.length_take]; omega), List.getElem?_take, if_pos h]
  · subst h
    rw [if_pos (by simp; omega), Nat.sub_self, List.append_assoc, List.getElem?_append_right (by rw [List.length_take]; omega), List.length_take, hl, Nat.min_eq_left hi, Nat.sub_self]
    rfl
  · rw [if_neg (by simp; omega), if_pos (by omega), List.getElem?_append_right (by rw [List.length_append, List.length_take]; simp; omega), List.length_append, List.length_take, hl, Nat.min_eq_left hi]
    congr 1
theorem ins_get' (cur : Array Value) (cs : List Value) (x : Value) (i n : Nat) (hl : cs.length = n) (hi : i ≤ n) (hsz : n + 1 ≤ cur.size) (hcur : ∀ j, j < i → cur[j]? = cs[j]?) (j : Nat) (hj : j < n + 1) :
    (putAll (putAll cur i [x]) (i + 1) (cs.drop i))[j]? = (cs.take i ++ [x] ++ cs.drop i)[j]? := by
  rw [putAll_get, putAll_size, putAll_get, List.length_drop, hl]
  rcases Nat.lt_trichotomy j i with h | h | h
  · rw [if_neg (by omega), if_neg (by simp; omega), hcur j h, List.append_assoc, List.getElem?_append_left (by rw [List.length_take]; omega), List.getElem?_take, if_pos h]
  · subst h
    rw [if_neg (by omega), if_pos (by simp; omega), Nat.sub_self, List.append_assoc, List.getElem?_append_right (by rw [List.length_take]; omega), List.length_take, hl, Nat.min_eq_left hi, Nat.sub_self]
    rfl
  · rw [if_pos (by omega), List.getElem?_append_right (by rw [List.length_append, List.length_take]; simp; omega), List.length_append, List.length_take, hl, Nat.min_eq_left hi]
    congr 1
theorem take_of_get {cur : Array Value} {T : List Value} {m : Nat} (hT : T.length = m) (hsz : m ≤ cur.size) (h : ∀ j, j < m → cur[j]? = T[j]?) : cur.toList.take m = T := by
  apply List.ext_getElem?
  intro j
  rw [List.getElem?_take]
  by_cases hj : j < m
  · rw [if_pos hj, ← h j hj]; simp
  · rw [if_neg hj, List.getElem?_eq_none (by omega)]
theorem os_set {g : Nat} : ∀ (vs : List Value) (w : World) (o : Nat), (w.setCells g o vs).os = w.os
  | [], _, _ => rfl
  | v :: r, w, o => by rw [World.setCells, os_set r]; rfl
theorem tape_set {g : Nat} : ∀ (vs : List Value) (w : World) (o : Nat), (w.setCells g o vs).tape = w.tape
  | [], _, _ => rfl
  | v :: r, w, o => by rw [World.setCells, tape_set r]; rfl
theorem output_set {g : Nat} : ∀ (vs : List Value) (w : World) (o : Nat), (w.setCells g o vs).output = w.output
  | [], _, _ => rfl
  | v :: r, w, o => by rw [World.setCells, output_set r]; rfl
theorem grown_set {a w : World} {g : Nat} (vs : List Value) (o : Nat) (h : a.grownBy w (some g)) : a.grownBy (w.setCells g o vs) (some g) :=
  ⟨by rw [os_set]; exact h.os, by rw [tape_set]; exact h.tape, by rw [output_set]; exact h.output, by rw [size]; exact h.size, fun k hk hne => by
    rw [far (fun e => hne (by rw [e]))]; exact h.block k hk hne⟩
theorem new_set {a w : World} {g : Nat} {row : Option Nat} (vs : List Value) (o : Nat) (hg : a.heap.size ≤ g) (h : a.grownBy w row) : a.grownBy (w.setCells g o vs) row :=
  ⟨by rw [os_set]; exact h.os, by rw [tape_set]; exact h.tape, by rw [output_set]; exact h.output, by rw [size]; exact h.size, fun k hk hne => by
    rw [far (by omega)]; exact h.block k hk hne⟩
end Pt

def Inserted (N g n : Nat) (l : List Int) (i : Nat) (x : Int) (w : World) (e : Ending) (w' : World) : Prop :=
  ∃ v, e = .returned v ∧ w'.ownsRow N 3 1 v (n + 1) (intCells (l.take i ++ [x] ++ l.drop i)) ∧ w.grownBy w' (some g)
theorem ins_cells (l : List Int) (i : Nat) (x : Int) : (intCells l).take i ++ [.int .i64 x] ++ (intCells l).drop i = intCells (l.take i ++ [x] ++ l.drop i) := by simp [intCells]
set_option maxRecDepth 10000 in
theorem lib_Insert (N g cap n i vb vc : Nat) (l : List Int) (x : Int) (w : World) (hl : l.length = n) (hown : w.ownsRow N 3 1 (.slice (some ⟨g, 0, none⟩) n cap) n (intCells l)) (hi : i ≤ n) (hn : n ≤ 1000) (hN : N ≤ w.heap.size)
    (hv : Blk w vb 3 #[.int .i64 x]) (hvg : vb ≠ g) :
    Calls Tryz.prog 96 #[.slice (some ⟨g, 0, none⟩) n cap, .int .i64 (i : Int), .slice (some ⟨vb, 0, none⟩) 1 vc] w fun e w' => Inserted N g n l i x w e w' := by
  rcases hown.2 with ⟨e, _⟩ | ⟨g', cap', cur, e, hbase, hb, h1, h2, h3, h4⟩
  · cases e
  · cases e
    rw [Nat.mul_one] at h3 h4
    have hcl : (intCells l).length = n := by rw [intCells_len]; exact hl
    have hk : Blk w g 3 cur := hb
    have hcur : ∀ j, j < n → cur[j]? = (intCells l)[j]? := fun j hj => by
      rw [← h4, List.getElem?_take, if_pos hj]; simp
    have hcs : ∀ j v, (intCells l)[j]? = some v → w.cell? ⟨g, 0 + j, none⟩ = some v := fun j v hv => by
      have := (List.getElem?_eq_some_iff.1 hv).1
      rw [Nat.zero_add, hk.cell, hcur j (by omega)]; exact hv
    have hvs : ∀ j v, ([.int .i64 x] : List Value)[j]? = some v → w.cell? ⟨vb, 0 + j, none⟩ = some v := fun j v hj => by
      rw [Nat.zero_add, hv.cell]; simpa using hj
    have hone := intCells_one l
    have hone1 : ∀ v ∈ ([.int .i64 x] : List Value), v.oneCell' = true := fun v hv => by rw [List.mem_singleton.1 hv]; rfl
    have hm63 : maxLen ≤ 9223372036854775807 := by unfold maxLen; omega
    have hTl : (l.take i ++ [x] ++ l.drop i).length = n + 1 := by simp; omega
    have hTc : (intCells (l.take i ++ [x] ++ l.drop i)).length = (n + 1) * 1 := by rw [intCells_len, hTl, Nat.mul_one]
    have hsp : n + 1 ≤ cap → ∀ j, j < n + 1 → (w.cell? ⟨g, 0 + j, none⟩).isSome = true := fun hc j hj => by
      rw [Nat.zero_add, hk.cell, Array.getElem?_eq_getElem (by omega)]; rfl
    by_cases hroom : n + 1 ≤ cap
    · by_cases hin : i < n
      · refine (Any2.slices_Insert_int_shift Tryz.laysIns g 0 n cap i vb 0 1 vc (intCells l) [.int .i64 x] w hin (by omega) hroom (by omega) hvg hcl rfl hcs (hsp hroom) (fun j _ => hk.frozen _) hvs hone hone1 3 3 1 cur.size (by unfold Blk at hv; simp [World.shape?, hv]) (by unfold Blk at hk; simp [World.shape?, hk]) (by omega) (hv.frozen 0) (hv.frozen 1)).mono ?_
        rintro e w' ⟨rfl, rfl⟩
        have hb2 := Pt.blk [.int .i64 x] i (Pt.blk ((intCells l).drop i) (i + 1) hk.drew)
        rw [Nat.zero_add, Nat.zero_add]
        refine ⟨_, rfl, ⟨hTc, Or.inr ⟨g, cap, _, rfl, hbase, hb2, hroom, h2, ?_, ?_⟩⟩, ?_⟩
        · rw [Pt.putAll_size, Pt.putAll_size, h3, Nat.mul_one]
        · rw [Nat.mul_one, ← ins_cells]
          exact Pt.take_of_get (by rw [ins_cells, hTc, Nat.mul_one]) (by rw [Pt.putAll_size, Pt.putAll_size]; omega) (Pt.ins_get cur (intCells l) _ i n hcl hi (by omega) (fun j hj => hcur j (by omega)))
        · exact Pt.grown_set _ _ (Pt.grown_set _ _ ⟨rfl, rfl, rfl, Nat.le_refl _, fun _ _ _ => rfl⟩)
      · obtain rfl : i = n := by omega
        refine (Any2.slices_Insert_int_end_room Tryz.laysIns g 0 i cap vb 0 1 vc [.int .i64 x] w (by omega) hroom (by omega) rfl (fun j hj => ?_) (fun j _ => hk.frozen _) hvs hone1).mono ?_
        · rw [Nat.zero_add, hk.cell, Array.getElem?_eq_getElem (by omega)]; rfl
        rintro e w' ⟨rfl, rfl⟩
        have hb2 := Pt.blk [.int .i64 x] i hk
        have hd : (intCells l).drop i = [] := List.drop_eq_nil_of_le (by omega)
        have hg2 := Pt.ins_get cur (intCells l) (.int .i64 x) i i hcl hi (by omega) (fun j hj => hcur j (by omega))
        rw [hd] at hg2
        rw [Nat.zero_add]
        refine ⟨_, rfl, ⟨hTc, Or.inr ⟨g, cap, _, rfl, hbase, hb2, hroom, h2, ?_, ?_⟩⟩, ?_⟩
        · rw [Pt.putAll_size, h3, Nat.mul_one]
        · rw [Nat.mul_one, ← ins_cells, hd]
          exact Pt.take_of_get (by have := hTc; rw [← ins_cells, hd, Nat.mul_one] at this; exact this) (by rw [Pt.putAll_size]; omega) hg2
        · exact Pt.grown_set _ _ (World.grownBy.refl _ _)
    · have hge := grownCap_ge w (n + 1) cap 3
      have hle := grownCap_le_maxLen w (n + 1) cap 3 (by unfold maxLen; omega)
      by_cases hin : i < n
      · refine (Any2.slices_Insert_int_grow Tryz.laysIns g 0 n cap i vb 0 1 vc (intCells l) [.int .i64 x] w hin (by omega) h1 (by omega) (by omega) hcl rfl hcs hvs hone hone1).mono ?_
        rintro e w' ⟨rfl, rfl⟩
        rw [show Tryz.laysIns_ren.t 3 = 3 from rfl]
        have hb0 := Blk.new w 3 (((intCells l).take i).toArray ++ Builtin.zeroCells (Value.int .i64 0).cells (n + 1 - i) ++ Builtin.zeroCells (Value.int .i64 0).cells (grownCap w (n + 1) cap 3 - (n + 1)))
        have hz1 : (Value.int IntKind.i64 0).cells.size = 1 := rfl
        have hsz : (((intCells l).take i).toArray ++ Builtin.zeroCells (Value.int .i64 0).cells (n + 1 - i) ++ Builtin.zeroCells (Value.int .i64 0).cells (grownCap w (n + 1) cap 3 - (n + 1))).size = grownCap w (n + 1) cap 3 := by
          rw [Array.size_append, Array.size_append, size_zeroCells, size_zeroCells, hz1, List.size_toArray, List.length_take]; omega
        have hcur0 : ∀ j, j < i → (((intCells l).take i).toArray ++ Builtin.zeroCells (Value.int .i64 0).cells (n + 1 - i) ++ Builtin.zeroCells (Value.int .i64 0).cells (grownCap w (n + 1) cap 3 - (n + 1)))[j]? = (intCells l)[j]? := fun j hj => by
          have hs1 : ((intCells l).take i).toArray.size = i := by rw [List.size_toArray, List.length_take]; omega
          rw [Array.getElem?_append_left (by rw [Array.size_append, hs1]; omega), Array.getElem?_append_left (by rw [hs1]; exact hj), List.getElem?_toArray, List.getElem?_take, if_pos hj]
        generalize (((intCells l).take i).toArray ++ Builtin.zeroCells (Value.int .i64 0).cells (n + 1 - i) ++ Builtin.zeroCells (Value.int .i64 0).cells (grownCap w (n + 1) cap 3 - (n + 1))) = A0 at *
        have hb2 := Pt.blk ((intCells l).drop i) (i + 1) (Pt.blk [.int .i64 x] i hb0.drew).drew
        refine ⟨_, rfl, ⟨hTc, Or.inr ⟨w.heap.size, _, _, rfl, hN, hb2, hge, hle, ?_, ?_⟩⟩, ?_⟩
        · rw [Pt.putAll_size, Pt.putAll_size, hsz, Nat.mul_one]
        · rw [Nat.mul_one, ← ins_cells]
          exact Pt.take_of_get (by rw [ins_cells, hTc, Nat.mul_one]) (by rw [Pt.putAll_size, Pt.putAll_size, hsz]; exact hge) (Pt.ins_get' A0 (intCells l) _ i n hcl hi (by omega) hcur0)
        · refine Pt.new_set _ _ (Nat.le_refl _) ?_
          have h0 : w.grownBy ((w.alloc (.cells A0 3)).drew.setCells w.heap.size i [.int .i64 x]) (some g) := Pt.new_set _ _ (Nat.le_refl _) (only_of_below (Below.drew ((Below.refl w.heap.size w).alloc (Nat.le_refl _) _)) _)
          exact ⟨h0.os, h0.tape, h0.output, h0.size, h0.block⟩
      · obtain rfl : i = n := by omega
        refine (Any2.slices_Insert_int_end_grow Tryz.laysIns (some ⟨g, 0, none⟩) i cap vb 0 1 vc (intCells l) [.int .i64 x] w (by omega) h1 (by omega) (by omega) hcl rfl (fun e => by cases e) (fun a ha j v hj => by cases ha; rw [show (⟨g, 0, none⟩ : Addr).add j = ⟨g, 0 + j, none⟩ from by unfold Addr.add; split <;> simp_all]; exact hcs j v hj) hvs hone1).mono ?_
        rintro e w' ⟨rfl, rfl⟩
        have hd : (intCells l).drop i = [] := List.drop_eq_nil_of_le (by omega)
        have ht : (intCells l).take i = intCells l := List.take_of_length_le (by omega)
        have hz1 : (Value.int IntKind.i64 0).cells.size = 1 := rfl
        refine ⟨_, rfl, ⟨hTc, Or.inr ⟨w.heap.size, _, _, rfl, hN, (Blk.new w.drew 3 _), hge, hle, ?_, ?_⟩⟩, ?_⟩
        · rw [Array.size_append, size_zeroCells, hz1, List.size_toArray, List.length_append, hcl, Nat.mul_one]
          show i + 1 + _ = _
          have : i + 1 ≤ grownCap w (i + 1) cap (Tryz.laysIns_ren.t 3) := hge
          omega
        · rw [Nat.mul_one, ← ins_cells, hd, ht, List.append_nil]
          refine Pt.take_of_get (by rw [List.length_append, hcl]; rfl) (by rw [Array.size_append, List.size_toArray, List.length_append, hcl]; simp) (fun j hj => ?_)
          rw [Array.getElem?_append_left (by rw [List.size_toArray, List.length_append, hcl]; exact hj), List.getElem?_toArray]
        · exact only_of_below ((Below.drew (Below.refl w.heap.size w)).alloc (Nat.le_refl _) _) _
/-- Into a nil slice. -/
theorem lib_InsertNil (N vb vc : Nat) (x z : Int) (hz : z = 0) (w : World) (hN : N ≤ w.heap.size) (hv : Blk w vb 3 #[.int .i64 x]) :
    Calls Tryz.prog 96 #[.slice none 0 0, .int .i64 z, .slice (some ⟨vb, 0, none⟩) 1 vc] w fun e w' => ∃ v, e = .returned v ∧ w'.ownsRow N 3 1 v 1 (intCells [x]) ∧ Below w.heap.size w w' := by
  subst hz
  have hvs : ∀ j v, ([.int .i64 x] : List Value)[j]? = some v → w.cell? ⟨vb, 0 + j, none⟩ = some v := fun j v hj => by
    rw [Nat.zero_add, hv.cell]; simpa using hj
  have hone1 : ∀ v ∈ ([.int .i64 x] : List Value), v.oneCell' = true := fun v hv => by rw [List.mem_singleton.1 hv]; rfl
  have hge := grownCap_ge w (0 + 1) 0 3
  have hle := grownCap_le_maxLen w (0 + 1) 0 3 (by unfold maxLen; omega)
  refine (Any2.slices_Insert_int_end_grow Tryz.laysIns none 0 0 vb 0 1 vc [] [.int .i64 x] w (by omega) (Nat.le_refl _) (by omega) (by omega) rfl rfl (fun _ => rfl) (fun a ha => by cases ha) hvs hone1).mono ?_
  rintro e w' ⟨rfl, rfl⟩
  have hz1 : (Value.int IntKind.i64 0).cells.size = 1 := rfl
  refine ⟨_, rfl, ⟨rfl, Or.inr ⟨w.heap.size, _, _, rfl, hN, (Blk.new w.drew 3 _), hge, hle, ?_, ?_⟩⟩, (Below.drew (Below.refl w.heap.size w)).alloc (Nat.le_refl _) _⟩
  · rw [Array.size_append, size_zeroCells, hz1]
    show 1 + _ = _
    have : 0 + 1 ≤ grownCap w (0 + 1) 0 (Tryz.laysIns_ren.t 3) := hge
    omega
  · refine Pt.take_of_get rfl (by rw [Array.size_append]; simp) (fun j hj => ?_)
    rw [Array.getElem?_append_left (by simpa using hj)]; simp [intCells]
set_option maxRecDepth 10000 in
set_option maxHeartbeats 1000000 in
theorem lib_CloneNil (n : Nat) (hn : n = 0) (w : World) :
    Calls Tryz.prog 97 #[.slice none n 0] w fun e w' => e = .returned (.slice none 0 0) ∧ Below w.heap.size w w' := by
  subst hn
  have heq : ∀ W, (binOp .eql 30 (.slice none 0 0) (.slice none 0 0)).run Tryz.prog W = .ok (.bool true) W := fun W => Lib.run_eql_slice_nil W 30 3 _ _ _ _ _ Tryz.underlying30
  go_enter Tryz.func97, Tryz.ntmps97
  go_wp2
  go_ret
  exact ⟨rfl, Below.refl _ _⟩
end Go.Proofs.YtamgimdjnmcpaaaGreat
namespace Go.Proofs.YtamgimdjnmcpaaaGreat
open Go.RowKit

theorem Cv.put_ints (o : List Nat) (x p : Nat) : (intsOf o).take p ++ [(x : Int)] ++ (intsOf o).drop p = intsOf (Gr.put o x p) := by
  unfold Gr.put; simp [intsOf]
set_option maxRecDepth 10000 in
set_option maxHeartbeats 8000000 in
theorem impl_allPermutations (n : Nat) (w : World) (hn : n ≤ 5) :
    Calls Tryz.prog 63 #[.int .i64 (n : Int)] w fun e w' => GivesRows w (Mp.natRows (Cv.all n)) e w' := by
  obtain ⟨i1, hi1, hy0, hy1, hy2⟩ := info_ints_parts
  have Hi1 := Lib.hid hi1; have Hy0 := Lib.hid hy0; have Hy1 := Lib.hid hy1; have Hy2 := Lib.hid hy2
  clear hi1 hy0 hy1 hy2
  obtain ⟨N, hN⟩ : ∃ N, N = w.heap.size := ⟨_, rfl⟩
  have HN := Lib.hid hN
  have hst : GridIn (w.alloc (.cells #[.slice none 0 0] 30)) N (w.alloc (.cells #[.slice none 0 0] 30)).heap.size (some ⟨w.heap.size, 0, none⟩) (Mp.natRows (Cv.all 0)) := by
    have hb := Blk.new w 30 #[.slice none 0 0]
    exact ⟨[⟨none, 0, []⟩], rfl, RowIn.of_blk hb (by omega) hb.lt, fun h hh => by rw [List.mem_singleton.1 hh]; exact Or.inl rfl, Apts.one (Nat.le_refl _)⟩
  have hst2 : Below N w (w.alloc (.cells #[.slice none 0 0] 30)) := (Below.refl N w).alloc (by omega) _
  have hst3 : (w.alloc (.cells #[.slice none 0 0] 30)).cell? ⟨w.heap.size, 0, none⟩ = some (.slice none 0 0) := (Blk.new w 30 #[.slice none 0 0]).cell 0
  have Hst := Lib.hid hst; have Hst2 := Lib.hid hst2; have Hst3 := Lib.hid hst3
  clear hst hst2 hst3 hN
  go_enter Tryz.func63, Tryz.ntmps63
  go_wp2
  go_loopw [3, 4, 5, 7, 8, 11] (fun ov _ _ _ _ kv wr => ∃ k : Nat, k ≤ n ∧ kv = .int .i64 k ∧ ∃ ao co, ov = .slice ao (Cv.all k).length co ∧ Hid (GridIn wr N wr.heap.size ao (Mp.natRows (Cv.all k))) ∧ Hid (Below N w wr) ∧ Hid ((Cv.all k).length ≤ co ∧ co ≤ maxLen) ∧ Hid (k = 0 → ∃ g, ao = some ⟨g, 0, none⟩ ∧ wr.cell? ⟨g, 0, none⟩ = some (.slice none 0 0))) (fun _ _ _ _ _ kv _ => n - (intOf kv).toNat)
  case atStart => exact ⟨0, by omega, rfl, _, _, rfl, Hst, Hst2, Lib.hid (by show 1 ≤ 1 ∧ 1 ≤ maxLen; unfold maxLen; omega), Lib.hid (fun _ => ⟨_, rfl, Hst3.out⟩)⟩
  case round =>
    clear Hst Hst2 Hst3
    obtain ⟨k, hk, rfl, ao, co, rfl, hgr, hb, hco, hnil⟩ := hrel
    obtain ⟨wo, hwo⟩ : ∃ wo, wo = wr := ⟨_, rfl⟩
    subst hwo
    by_cases hlt : k < n
    · have hO5 := Cv.all_few (show k ≤ 5 by omega)
      have hOk : ∀ o ∈ Cv.all k, o.length = k := fun o ho => Cv.all_row ho
      have hO1 : Cv.all (k + 1) = Cv.allStep (Cv.all k) k := rfl
      have hO0 : k = 0 → Cv.all k = [[]] := fun e => by rw [e]; rfl
      have Hlt := Lib.hid hlt
      generalize hOd : Cv.all k = O at *
      have HO1 := Lib.hid hO1; have HOk := Lib.hid hOk; have HO0 := Lib.hid hO0
      have hk5 : (k : Int) ≤ 5 := by omega
      have h0k : (0 : Int) ≤ (k : Int) := by omega
      have dlt : decide (k < n) = true := decide_eq_true hlt
      clear hlt hO1 hOk hOd hO0
      go_wp2
      go_loopw [5, 7, 8, 16] (fun nv _ _ iv wr => ∃ i : Nat, i ≤ O.length ∧ iv = .int .i64 i ∧ Hid (RowsIn wo wo.heap.size wr nv (Mp.natRows (Cv.allTo O k i 0)))) (fun _ _ _ iv _ => O.length - (intOf iv).toNat)
      case atStart => exact ⟨0, Nat.zero_le _, rfl, Lib.hid (RowsIn.nil (Below.refl _ _))⟩
      case round =>
        obtain ⟨i, hi, rfl, hrows⟩ := hrel
        by_cases hlt2 : i < O.length
        · obtain ⟨o, ho⟩ := get_some hlt2
          have hol := HOk.out o (get_mem ho)
          obtain ⟨hs0, ehs, hri, hrin, hapt⟩ := hgr.out
          obtain ⟨bo, oo, ai, ci, rfl, hbo, hcellg, hrowg⟩ := hgr.out.grid.get (natRows_get ho)
          rw [intsOf_len, hol] at hcellg
          have hbl0 : Below wo.heap.size wo wr := by obtain ⟨_, _, _, _, _, h⟩ := hrows.out; exact h
          have hcell : wr.cell? ⟨bo, oo + i, none⟩ = some (.slice ai k ci) := by rw [hbl0.cell hbo]; exact hcellg
          have hnx := Cv.allTo_next (x := k) ho
          have hgd : O.getD i [] = o := by rw [List.getD_eq_getElem?_getD, ho]; rfl
          have hai : k = 0 → ai = none ∧ ci = 0 := fun e => by
            obtain ⟨g, e1, e2⟩ := hnil.out e
            have hi0 : i = 0 := by have := congrArg List.length (HO0.out e); simp at this; omega
            cases e1
            subst hi0
            rw [Nat.add_zero] at hcellg
            rw [e2] at hcellg
            have := Option.some.inj hcellg
            injection this with h1 h2 h3
            exact ⟨h1.symm, h3.symm⟩
          have Hrow := Lib.hid (fun W (h : Below wo.heap.size wo W) => hrowg.below h); have Hnx := Lib.hid hnx; have Hgd := Lib.hid hgd; have Hol := Lib.hid hol; have Hai := Lib.hid hai
          have Hlt2 := Lib.hid hlt2
          have h0i : (0 : Int) ≤ (i : Int) := by omega
          have h1i : (i : Int) < (O.length : Int) := by omega
          clear hlt2 hcellg hrowg hnx hgd ho hol hai ehs hri hrin hapt hbl0
          go_wp2
          clear hcell
          go_loopw [5, 8, 22] (fun nv _ tv wr => ∃ j : Nat, j ≤ k + 1 ∧ tv = .int .i64 j ∧ Hid (RowsIn wo wo.heap.size wr nv (Mp.natRows (Cv.allTo O k i j)))) (fun _ _ tv _ => k + 1 - (intOf tv).toNat)
          case atStart => exact ⟨0, Nat.zero_le _, rfl, hrows⟩
          case round =>
            clear hrows
            obtain ⟨p, hp, rfl, hrows⟩ := hrel
            by_cases hlt3 : p < k + 1
            · have d3 : (p : Int) < (k : Int) + 1 := by omega
              obtain ⟨hs, e1, hown, hin, hap, hbl⟩ := hrows.out
              have hwo : wo.heap.size ≤ wr.heap.size := hbl.size
              have hmore := Cv.allTo_more O k i p
              rw [Hgd.out] at hmore
              have hlnj := Cv.allTo_len (O := O) (x := k) (i := i) (j := p) (by omega)
              have hlnb : (O.length + 1) * (k + 1) ≤ 121 * 6 := Nat.mul_le_mul (by omega) (by omega)
              obtain ⟨av, cv, rfl⟩ := own_len hown
              rw [Cv.natRows_size] at hown ⊢
              have hpl : (intsOf (Gr.put o k p)).length = k + 1 := by rw [intsOf_len, Cv.put_len o (by rw [Hol.out]; omega), Hol.out]
              have hpush := fun w9 (hb9 : Below wr.heap.size wr w9) ta tc (hf : Fresh w9 wr.heap.size 3 ta (intCells (intsOf (Gr.put o k p)))) (htc : k + 1 ≤ tc) v11 w11 (h11 : w11.ownsRow wo.heap.size 30 1 v11 ((Cv.allTo O k i p).length + 1) (hdCells hs ++ [.slice ta (k + 1) tc])) (hg11 : (w9.alloc (.cells #[.slice ta (k + 1) tc] 30)).grownBy w11 (Value.slice av (Cv.allTo O k i p).length cv).ownBlock) => (show RowsIn wo wo.heap.size w11 v11 (Mp.natRows (Cv.allTo O k i (p + 1))) by
                rw [hmore, Cv.natRows_more]
                refine RowsIn.push (c := tc) (a := ta) (l := intsOf (Gr.put o k p)) e1 (by rw [Cv.natRows_size]; exact hown) hin hap hbl hwo hb9 hf (by rw [hpl]; exact htc) (by rw [Cv.natRows_size, hpl]; exact h11) hg11)
              have hnow := fun W (h : Below wr.heap.size wr W) => own_keep hown h (fun k hk => (hown.lt k hk).2)
              have q1 : (Cv.allTo O k i p).length + 1 ≤ maxLen := by unfold maxLen; omega
              have q2 : ((Cv.allTo O k i p).length + 1) * 24 ≤ 140737488355328 := by omega
              have hr0 : (intCells (intsOf (Gr.put o k p))).length = k + 1 := by rw [intCells_len]; exact hpl
              have hRow := Hrow.out wr hbl
              have Hpush := Lib.hid hpush; have Hnow := Lib.hid hnow; have Hr0 := Lib.hid hr0
              have hpk : p ≤ k := by omega
              clear hpl hpush hnow hmore hlnj hlnb hin hap hown e1 hrows hlt3 hr0
              generalize (Cv.allTo O k i p).length = nl at *
              by_cases hk0 : k = 0
              · obtain ⟨rfl, rfl⟩ := Hai.out hk0
                have hp0 : (p : Int) = 0 := by omega
                have Hp0 := Lib.hid hp0
                have Hput := Lib.hid (show intsOf (Gr.put o k p) = [(k : Int)] from by
                  have ho0 : o = [] := List.eq_nil_of_length_eq_zero (by rw [Hol.out]; exact hk0)
                  rw [ho0]; unfold Gr.put; simp [intsOf])
                have Hk0 := Lib.hid hk0
                clear hp0 hk0
                go_wp2_with fail
                refine (lib_CloneNil k Hk0.out wr).mono ?_
                rintro e w2 ⟨rfl, hb2⟩
                have hlitb : Below w2.heap.size w2 (w2.alloc (.cells #[.int .i64 (k : Int)] 3)) := (Below.refl _ _).alloc (Nat.le_refl _) _
                have hI := lib_InsertNil wr.heap.size w2.heap.size 1 (k : Int) (p : Int) Hp0.out (w2.alloc (.cells #[.int .i64 (k : Int)] 3)) (Nat.le_trans hb2.size hlitb.size) (Blk.new w2 _ _)
                have hb3 := hb2.trans (hlitb.mono hb2.size)
                have HI := Lib.hid hI; have Hb3 := Lib.hid hb3
                clear hI hb3 hlitb hb2
                go_wp2_with fail
                refine HI.out.mono ?_
                rintro e w9 ⟨v9, rfl, hown9, hbb9⟩
                have hb9 := Hb3.out.trans (hbb9.mono Hb3.out.size)
                rw [← Hput.out] at hown9
                have hown9' : w9.ownsRow wr.heap.size 3 1 v9 (k + 1) (intCells (intsOf (Gr.put o k p))) := by
                  have h1 := hown9
                  have e : k = 0 := Hk0.out
                  rw [show k + 1 = 1 by omega]; exact h1
                obtain ⟨ta, tc, rfl, htc', hf9⟩ := own_fresh hown9' Hr0.out
                have Hb9 := Lib.hid hb9; have Hf9 := Lib.hid hf9; have Hnow9 := Lib.hid (Hnow.out w9 hb9)
                have hz9 : wo.heap.size ≤ w9.heap.size := Nat.le_trans hwo hb9.size
                clear hown9 hown9' hbb9 hb9 hf9
                go_wp2_with (at_builtin; refine append_one rfl (.tmp 25) (.tmp 32) 24 rfl wo.heap.size 30 i1 _ 24 Tryz.underlying24 Hi1.out Hy0.out Hy1.out Hy2.out (by rfl) _ _ _ rfl Hnow9.out (by rfl) _ rfl q1 q2 hz9 ?_; intro v11 w11 hown11 hg11 _; obtain ⟨av11, cv11, rfl⟩ := own_len hown11; have HP := Lib.hid (Hpush.out w9 Hb9.out ta tc Hf9.out htc' _ w11 hown11 hg11); clear hown11 hg11)
                go_roundw
                case rel => exact ⟨p + 1, by omega, by go_num, HP⟩
                case measure => simp [intOf]; omega
              · have hcl := lib_Clone ai ci (intsOf o) wr hRow (by rw [intsOf_len, Hol.out]; omega) (by rw [intsOf_len, Hol.out]; omega)
                rw [intsOf_len, Hol.out] at hcl
                have Hcl := Lib.hid hcl
                have hp0 : (0 : Int) ≤ (p : Int) := by omega
                clear hcl hRow
                go_wp2_with fail
                refine Hcl.out.mono ?_
                rintro e w2 ⟨⟨g, cap, rfl, hown2, hc1, hc2⟩, hb2⟩
                have hlitb : Below w2.heap.size w2 (w2.alloc (.cells #[.int .i64 (k : Int)] 3)) := (Below.refl _ _).alloc (Nat.le_refl _) _
                have hgl := (hown2.lt g rfl)
                have hI := lib_Insert wr.heap.size g cap k p w2.heap.size 1 (intsOf o) (k : Int) (w2.alloc (.cells #[.int .i64 (k : Int)] 3)) (by rw [intsOf_len]; exact Hol.out) (hown2.alloc _) hpk (by omega) (Nat.le_trans hb2.size hlitb.size) (Blk.new w2 _ _) (by omega)
                have hb3 := hb2.trans (hlitb.mono hb2.size)
                have HI := Lib.hid hI; have Hb3 := Lib.hid hb3
                clear hI hb3 hlitb hown2 hb2 hc1 hc2
                go_wp2_with fail
                refine HI.out.mono ?_
                rintro e w9 ⟨v9, rfl, hown9, hg9⟩
                have hb9 := Below.grown Hb3.out hg9 Hb3.out.size (fun q hq => by cases hq; exact hgl.1)
                rw [Cv.put_ints] at hown9
                obtain ⟨ta, tc, rfl, htc, hf9⟩ := own_fresh hown9 Hr0.out
                have Hb9 := Lib.hid hb9; have Hf9 := Lib.hid hf9; have Hnow9 := Lib.hid (Hnow.out w9 hb9)
                have hz9 : wo.heap.size ≤ w9.heap.size := Nat.le_trans hwo hb9.size
                clear hown9 hg9 hb9 hf9
                go_wp2_with (at_builtin; refine append_one rfl (.tmp 25) (.tmp 32) 24 rfl wo.heap.size 30 i1 _ 24 Tryz.underlying24 Hi1.out Hy0.out Hy1.out Hy2.out (by rfl) _ _ _ rfl Hnow9.out (by rfl) _ rfl q1 q2 hz9 ?_; intro v11 w11 hown11 hg11 _; obtain ⟨av11, cv11, rfl⟩ := own_len hown11; have HP := Lib.hid (Hpush.out w9 Hb9.out ta tc Hf9.out htc _ w11 hown11 hg11); clear hown11 hg11)
                go_roundw
                case rel => exact ⟨p + 1, by omega, by go_num, HP⟩
                case measure => simp [intOf]; omega
            · obtain rfl : p = k + 1 := by omega
              rw [Hnx.out] at hrows
              have d3 : ¬ ((k + 1 : Nat) : Int) < (k : Int) + 1 := by omega
              clear hlt3 hp
              generalize ((k + 1 : Nat) : Int) = z at *
              go_wp2
              go_roundw
              case rel => exact ⟨i + 1, Hlt2.out, by go_num, hrows⟩
              case measure => have := Hlt2.out; simp [intOf] <;> omega
        · obtain rfl : i = O.length := by omega
          have hrw := hrows.out
          rw [Cv.allTo_end, ← HO1.out] at hrw
          obtain ⟨a2, c2, rfl, hg2, hb2, hc1, hc2⟩ := hrw.gridIn
          have hNo : N ≤ wo.heap.size := by have := hb.out.size; have := HN.out; omega
          have Hg2 := Lib.hid (hg2.mono hNo (Nat.le_refl _))
          have Hb2 := Lib.hid (hb.out.trans (hb2.mono hNo))
          have hlen : (Mp.natRows (Cv.all (k + 1))).length = (Cv.all (k + 1)).length := Cv.natRows_size _
          rw [hlen] at hc1 ⊢
          have Hc := Lib.hid (And.intro hc1 hc2)
          clear hc1 hc2
          clear hrw hg2 hb2 hlt2 hlen
          go_wp2
          go_roundw
          case rel => exact ⟨k + 1, Hlt.out, by go_num, _, _, rfl, Hg2, Hb2, Hc, Lib.hid (fun h => absurd h (by omega))⟩
          case measure => have := Hlt.out; simp [intOf] <;> omega
    · obtain rfl : n = k := by omega
      clear hlt
      go_wp2
      go_ret
      have hg := hgr.out
      rw [HN.out] at hg
      have hc := hco.out
      exact ⟨_, _, by rw [Cv.natRows_size]; rfl, by rw [Cv.natRows_size]; exact hc.1, hc.2, hg, by have := hb.out; rw [HN.out] at this; exact this⟩
end Go.Proofs.YtamgimdjnmcpaaaGreat
namespace Go.Proofs.YtamgimdjnmcpaaaGreat
open Go.RowKit

/-- The commuting of two permutations below j. -/
def Cv.CommTo (p q : List Int) (j : Nat) : Prop := ∀ s, s < j → Mp.at_ p (Mp.at_ q s) = Mp.at_ q (Mp.at_ p s)
theorem Cv.CommTo.step {p q : List Int} {j : Nat} (h : Cv.CommTo p q j) (e : Mp.at_ p (Mp.at_ q j) = Mp.at_ q (Mp.at_ p j)) : Cv.CommTo p q (j + 1) := fun s hs => by
  rcases Nat.lt_or_ge s j with h1 | h1
  · exact h s h1
  · rw [show s = j by omega]; exact e
set_option maxRecDepth 10000 in
set_option maxHeartbeats 1000000 in
theorem impl_doCommute (ap aq : Option Addr) (cp cq n : Nat) (p q : List Int) (w : World) (hp : RowAt w ap (intCells p)) (hq : RowAt w aq (intCells q)) (hpP : Mp.IsP p) (hqP : Mp.IsP q) (hpl : p.length = n) (hql : q.length = n) (hn : n ≤ 1000) :
    Calls Tryz.prog 74 #[.slice ap n cp, .slice aq n cq] w fun e w' => e = .returned (.bool (decide (Cv.Comm p q))) ∧ Below w.heap.size w w' := by
  obtain ⟨V, hV⟩ : ∃ V, decide (Cv.Comm p q) = V := ⟨_, rfl⟩
  rw [hV]
  have hcp : ∀ s, s < n → ∃ b o, ap = some ⟨b, o, none⟩ ∧ ∀ W, Below w.heap.size w W → W.cell? ⟨b, o + s, none⟩ = some (.int .i64 ((Mp.at_ p s : Nat) : Int)) := fun s hs => by
    obtain ⟨b, o, e, hb, hc⟩ := intCells_get? hp (Mp.at_get hpP (d := s) (by omega))
    exact ⟨b, o, e, fun W hW => by rw [hW.cell hb]; exact hc⟩
  have hcq : ∀ s, s < n → ∃ b o, aq = some ⟨b, o, none⟩ ∧ ∀ W, Below w.heap.size w W → W.cell? ⟨b, o + s, none⟩ = some (.int .i64 ((Mp.at_ q s : Nat) : Int)) := fun s hs => by
    obtain ⟨b, o, e, hb, hc⟩ := intCells_get? hq (Mp.at_get hqP (d := s) (by omega))
    exact ⟨b, o, e, fun W hW => by rw [hW.cell hb]; exact hc⟩
  have hpn : ∀ s, s < n → Mp.at_ p s < n := fun s hs => by have := Mp.at_lt hpP (d := s) (by omega); omega
  have hqn : ∀ s, s < n → Mp.at_ q s < n := fun s hs => by have := Mp.at_lt hqP (d := s) (by omega); omega
  have HV := Lib.hid hV; have Hcp := Lib.hid hcp; have Hcq := Lib.hid hcq; have Hpn := Lib.hid hpn; have Hqn := Lib.hid hqn; have Hql := Lib.hid hql
  clear hV hcp hcq hpn hqn hp hq hpP hqP hpl hql
  go_enter Tryz.func74, Tryz.ntmps74
  go_wp2
  go_loopw [5, 8] (fun _ iv wr => ∃ i : Nat, i ≤ n ∧ iv = .int .i64 i ∧ Hid (Cv.CommTo p q i) ∧ Hid (Below w.heap.size w wr)) (fun _ iv _ => n - (intOf iv).toNat)
  case atStart => exact ⟨0, by omega, rfl, Lib.hid (fun s h => absurd h (by omega)), Lib.hid (Below.refl _ _)⟩
  case round =>
    obtain ⟨i, hi, rfl, hto, hb⟩ := hrel
    by_cases hlt : i < n
    · obtain ⟨bp, op, rfl, hc1⟩ := Hcp.out i hlt
      obtain ⟨bq, oq, rfl, hc2⟩ := Hcq.out i hlt
      obtain ⟨_, _, e3, hc3⟩ := Hcp.out (Mp.at_ q i) (Hqn.out i hlt)
      cases e3
      obtain ⟨_, _, e4, hc4⟩ := Hcq.out (Mp.at_ p i) (Hpn.out i hlt)
      cases e4
      have d1 := hc1 wr hb.out
      have d2 := hc2 wr hb.out
      have d3 := hc3 wr hb.out
      have d4 := hc4 wr hb.out
      have hx := Hpn.out i hlt
      have hy := Hqn.out i hlt
      have Hno := Lib.hid (show Mp.at_ p (Mp.at_ q i) ≠ Mp.at_ q (Mp.at_ p i) → V = false from fun hne => by rw [← HV.out]; exact decide_eq_false fun h => hne (h i (by rw [Hql.out]; exact hlt)))
      have Hst := Lib.hid (fun e => hto.out.step (j := i) e)
      generalize hu : Mp.at_ p (Mp.at_ q i) = u at *
      generalize hv : Mp.at_ q (Mp.at_ p i) = v at *
      generalize Mp.at_ p i = x at *
      generalize Mp.at_ q i = y at *
      have i0 : (0 : Int) ≤ (i : Int) := by omega
      have i1 : (i : Int) < (n : Int) := by omega
      have x0 : (0 : Int) ≤ (x : Int) := by omega
      have x1 : (x : Int) < (n : Int) := by omega
      have y0 : (0 : Int) ≤ (y : Int) := by omega
      have y1 : (y : Int) < (n : Int) := by omega
      clear hc1 hc2 hc3 hc4 hu hv
      by_cases he : u = v
      · have dne : ((u : Int) != (v : Int)) = false := by simp [he]
        have He := Lib.hid he
        clear he
        go_wp2
        go_quiet (fail)
        go_wp2
        go_roundw
        case rel => exact ⟨i + 1, by omega, by go_num, Lib.hid (Hst.out He.out), Lib.hid (below_drewN hb.out _)⟩
        case measure => simp [intOf]; omega
      · have dne : ((u : Int) != (v : Int)) = true := by simp; omega
        have Hd := Lib.hid (Hno.out he)
        clear he
        go_wp2
        go_quiet (fail)
        go_wp2
        go_ret
        exact ⟨by rw [Hd.out]; rfl, below_drewN hb.out _⟩
    · obtain rfl : n = i := by omega
      have Hd := Lib.hid (show V = true by rw [← HV.out]; exact decide_eq_true fun s hs => hto.out s (by rw [Hql.out] at hs; exact hs))
      go_wp2
      go_ret
      exact ⟨by rw [Hd.out]; rfl, hb.out⟩

set_option maxRecDepth 10000 in
set_option maxHeartbeats 1000000 in
theorem impl_symm1 (aq ap : Option Addr) (cq cp n B : Nat) (p q : List Int) (w : World) (hp : RowAt w ap (intCells p)) (hq : RowAt w aq (intCells q)) (hpP : Mp.IsP p) (hqP : Mp.IsP q) (hpl : p.length = n) (hql : q.length = n) (hn : n ≤ 1000) (c0 : w.cell? ⟨B, 0, none⟩ = some (.slice ap n cp)) :
    Calls Tryz.prog 73 #[.slice aq n cq, .pointer (some ⟨B, 0, none⟩)] w fun e w' => e = .returned (.bool (!decide (Cv.Comm p q))) ∧ Below w.heap.size w w' := by
  have Hc := Lib.hid (impl_doCommute ap aq cp cq n p q w hp hq hpP hqP hpl hql hn)
  generalize decide (Cv.Comm p q) = v at *
  clear hp hq hpP hqP hpl hql
  go_enter Tryz.func73, Tryz.ntmps73
  go_wp2_with fail
  refine Hc.out.mono ?_
  rintro e w3 ⟨rfl, hb3⟩
  have Hb3 := Lib.hid hb3; clear hb3
  go_wp2
  go_ret
  exact ⟨rfl, Hb3.out⟩
set_option maxRecDepth 10000 in
set_option maxHeartbeats 1000000 in
theorem lib_IndexFuncS (a ap : Option Addr) (cap cp n B : Nat) (L : List (List Int)) (p : List Int) (w : World) (ha : GridAt w a L) (hl : L.length ≤ 1000) (hL : ∀ q ∈ L, q.length = n ∧ Mp.IsP q) (hp : RowAt w ap (intCells p)) (hpP : Mp.IsP p) (hpl : p.length = n) (hn : n ≤ 1000) (hB : B < w.heap.size) (c0 : w.cell? ⟨B, 0, none⟩ = some (.slice ap n cp)) :
    Calls Tryz.prog 92 #[.slice a L.length cap, .func (.func 73) #[] #[.pointer (some ⟨B, 0, none⟩)]] w fun e w' => (∃ z : Int, e = .returned (.int .i64 z) ∧ decide (0 ≤ z) = !decide (Cv.Symm L p)) ∧ Below w.heap.size w w' := by
  have Ha := Lib.hid ha; have HL := Lib.hid hL; have Hc0 := Lib.hid c0; have Hp := Lib.hid hp; have HpP := Lib.hid hpP; have Hpl := Lib.hid hpl
  clear ha hL c0 hp hpP hpl
  go_enter Tryz.func92, Tryz.ntmps92
  go_wp2
  go_loopw [5, 8] (fun _ iv wr => ∃ i : Nat, i ≤ L.length ∧ iv = .int .i64 i ∧ Hid (∀ q ∈ L.take i, Cv.Comm p q) ∧ Hid (Below w.heap.size w wr)) (fun _ iv _ => L.length - (intOf iv).toNat)
  case atStart => exact ⟨0, by omega, rfl, Lib.hid (fun q h => by simp at h), Lib.hid (Below.refl _ _)⟩
  case round =>
    obtain ⟨i, hi, rfl, hno, hb⟩ := hrel
    by_cases hlt : i < L.length
    · obtain ⟨q, hq⟩ := get_some hlt
      obtain ⟨b, o, ai, ci, rfl, hbw, hcell, hrow⟩ := (Ha.out.below hb.out).get hq
      obtain ⟨hq1, hq2⟩ := HL.out q (get_mem hq)
      rw [hq1] at hcell
      have hcl := impl_symm1 ai ap ci cp n B p q wr (Hp.out.below hb.out) hrow HpP.out hq2 Hpl.out hq1 hn (by rw [hb.out.cell hB]; exact Hc0.out)
      have Hq := Lib.hid hq; clear hq hrow hq1
      have hlt' : (i : Int) < (L.length : Int) := by omega
      by_cases he : Cv.Comm p q
      · rw [decide_eq_true he] at hcl
        have Hno := Lib.hid (show ∀ r ∈ L.take (i + 1), Cv.Comm p r from fun r hr => by
          obtain ⟨hi2, e2⟩ := List.getElem?_eq_some_iff.1 Hq.out
          rw [List.take_succ_eq_append_getElem hi2, List.mem_append, List.mem_singleton] at hr
          rcases hr with hr | hr
          · exact hno.out r hr
          · rw [hr, e2]; exact he)
        have Hcl := Lib.hid hcl
        clear he hcl
        go_wp2_with fail
        refine Hcl.out.mono ?_
        rintro e w3 ⟨rfl, hb3⟩
        have Hb3 := Lib.hid (hb.out.trans (hb3.mono hb.out.size)); clear hb3
        go_wp2
        go_roundw
        case rel => exact ⟨i + 1, by omega, by go_num, Hno, Hb3⟩
        case measure => simp [intOf]; omega
      · rw [decide_eq_false he] at hcl
        have Hres := Lib.hid (show decide ((0 : Int) ≤ (i : Int)) = !decide (Cv.Symm L p) by rw [decide_eq_true (show (0 : Int) ≤ (i : Int) by omega), decide_eq_false fun h => he (h q (get_mem Hq.out))]; rfl)
        have Hcl := Lib.hid hcl
        clear he hcl
        go_wp2_with fail
        refine Hcl.out.mono ?_
        rintro e w3 ⟨rfl, hb3⟩
        go_wp2
        go_ret
        exact ⟨⟨_, rfl, Hres.out⟩, hb.out.trans (hb3.mono hb.out.size)⟩
    · obtain rfl : i = L.length := by omega
      have Hres := Lib.hid (show decide ((0 : Int) ≤ -1) = !decide (Cv.Symm L p) by
        rw [decide_eq_true (show Cv.Symm L p from fun q hq => hno.out q (by rw [List.take_of_length_le (Nat.le_refl _)]; exact hq))]; rfl)
      go_wp2
      go_ret
      exact ⟨⟨_, rfl, Hres.out⟩, hb.out⟩
set_option maxRecDepth 10000 in
set_option maxHeartbeats 1000000 in
theorem lib_ContainsFuncS (a ap : Option Addr) (cap cp n B : Nat) (L : List (List Int)) (p : List Int) (w : World) (ha : GridAt w a L) (hl : L.length ≤ 1000) (hL : ∀ q ∈ L, q.length = n ∧ Mp.IsP q) (hp : RowAt w ap (intCells p)) (hpP : Mp.IsP p) (hpl : p.length = n) (hn : n ≤ 1000) (hB : B < w.heap.size) (c0 : w.cell? ⟨B, 0, none⟩ = some (.slice ap n cp)) :
    Calls Tryz.prog 72 #[.slice a L.length cap, .func (.func 73) #[] #[.pointer (some ⟨B, 0, none⟩)]] w fun e w' => e = .returned (.bool (!decide (Cv.Symm L p))) ∧ Below w.heap.size w w' := by
  have Hc := Lib.hid (lib_IndexFuncS a ap cap cp n B L p w ha hl hL hp hpP hpl hn hB c0)
  clear ha c0 hL hp
  generalize (!decide (Cv.Symm L p)) = b at *
  go_enter Tryz.func72, Tryz.ntmps72
  go_wp2_with fail
  refine Hc.out.mono ?_
  rintro e w3 ⟨⟨z, rfl, hz⟩, hb3⟩
  have Hz := Lib.hid hz; have Hb3 := Lib.hid hb3
  clear hz hb3
  generalize hd : decide ((0 : Int) ≤ z) = d at *
  have Hd := Lib.hid hd; clear hd
  go_wp2
  go_ret
  exact ⟨by rw [← Hz.out, ← Hd.out]; rfl, Hb3.out⟩

namespace Cv
def symN (L : List (List Int)) (P : List (List Int)) (i : Nat) : Nat := (P.take i).countP fun p => decide (Symm L p)
theorem symN_step {L P : List (List Int)} {i : Nat} {p : List Int} (h : P[i]? = some p) : symN L P (i + 1) = symN L P i + if Symm L p then 1 else 0 := by
  obtain ⟨hi, rfl⟩ := List.getElem?_eq_some_iff.1 h
  unfold symN
  rw [List.take_succ_eq_append_getElem hi, List.countP_append]
  by_cases hs : Symm L P[i]
  · rw [if_pos hs]; simp [List.countP_cons, hs]
  · rw [if_neg hs]; simp [List.countP_cons, hs]
theorem symN_le (L P : List (List Int)) (i : Nat) : symN L P i ≤ i := by
  unfold symN
  have h1 := List.countP_le_length (p := fun p => decide (Symm L p)) (l := P.take i)
  rw [List.length_take] at h1; omega
theorem symms_of {L : List (List Int)} (h : Perms L) : symms L = ((symN L (Mp.natRows (all (deg L))) (Mp.natRows (all (deg L))).length : Nat) : Int) := by
  unfold symms symN; rw [if_pos h, List.take_of_length_le (Nat.le_refl _)]
theorem symms_not {L : List (List Int)} (h : ¬ Perms L) : symms L = -1 := if_neg h
end Cv
set_option maxRecDepth 10000 in
set_option maxHeartbeats 2000000 in
theorem impl_SheetSymmetries (a : Option Addr) (c : Nat) (L : List (List Int)) (w : World) (ha : GridAt w a L) (hL : ∀ p ∈ L, p.length ≤ 1048576) (hn : L.length ≤ 1048576) :
    Calls Tryz.prog 25 #[.slice a L.length c] w fun e w' => e = .returned (.int .i64 (Cv.symms L)) ∧ Below w.heap.size w w' := by
  have hcP := impl_doPermute a c L w ha hL hn
  by_cases hP : Cv.Perms L
  · rw [decide_eq_true hP] at hcP
    have h5 := hP.2.2.2.2
    have hl1 := hP.2.1
    have hl8 := hP.2.2.1
    obtain ⟨r0, hr0, hr0l⟩ := Cv.head_get (L := L) (by omega)
    obtain ⟨b0, o0, a0, c0, rfl, hbw0, hcell0, _⟩ := ha.get hr0
    rw [Nat.add_zero, hr0l] at hcell0
    have i2 : 0 < L.length := by omega
    have hPd := hP.1
    obtain ⟨V, hV⟩ : ∃ V, Cv.symms L = V := ⟨_, rfl⟩
    rw [hV]
    rw [Cv.symms_of hP] at hV
    have hq := fun r (hr : r ∈ Mp.natRows (Cv.all (Cv.deg L))) => Cv.all_isP hr
    have hper := fun W => impl_allPermutations (Cv.deg L) W h5
    have hRl : (Mp.natRows (Cv.all (Cv.deg L))).length ≤ 120 := by rw [Cv.natRows_size]; exact Cv.all_few h5
    generalize Mp.natRows (Cv.all (Cv.deg L)) = R at *
    generalize Cv.deg L = n at *
    have Ha := Lib.hid ha; have Hc0 := Lib.hid hcell0; have HPd := Lib.hid hPd; have HV := Lib.hid hV; have Hq := Lib.hid hq; have Hper := Lib.hid hper; have HcP := Lib.hid hcP
    clear ha hP hr0 hr0l hcell0 hPd hV hq hper hcP hL
    go_enter Tryz.func25, Tryz.ntmps25
    go_wp2_with fail
    refine HcP.out.mono ?_
    rintro e w1 ⟨rfl, hb1⟩
    have Hb1 := Lib.hid hb1; clear hb1
    have c1 : w1.cell? ⟨b0, o0, none⟩ = some (.slice a0 n c0) := by rw [Hb1.out.cell hbw0]; exact Hc0.out
    go_wp2_with fail
    refine (Hper.out w1).mono ?_
    rintro e w2 ⟨ra, rc, rfl, _, _, hg2, hb2⟩
    have Hb2 := Lib.hid (Hb1.out.trans (hb2.mono Hb1.out.size)); have Hg2 := Lib.hid hg2.grid
    clear hg2 hb2 c1
    go_wp2
    go_loopw [3, 5, 15] (fun sv _ iv wr => ∃ i : Nat, i ≤ R.length ∧ iv = .int .i64 i ∧ sv = .int .i64 ((Cv.symN L R i : Nat) : Int) ∧ Hid (Below w2.heap.size w2 wr)) (fun _ _ iv _ => R.length - (intOf iv).toNat)
    case atStart => exact ⟨0, by omega, rfl, rfl, Lib.hid (Below.refl _ _)⟩
    case round =>
      obtain ⟨i, hi, rfl, rfl, hb⟩ := hrel
      by_cases hlt : i < R.length
      · obtain ⟨p, hp⟩ := get_some hlt
        obtain ⟨hpl, hpP⟩ := Hq.out p (get_mem hp)
        obtain ⟨b, o, ai, ci, rfl, hbw, hcell, hrow⟩ := (Hg2.out.below hb.out).get hp
        rw [hpl] at hcell
        have hal : Below wr.heap.size wr (wr.alloc (.cells #[.slice ai n ci] 30)) := (Below.refl _ _).alloc (Nat.le_refl _) _
        have hbx := Blk.new wr 30 #[.slice ai n ci]
        have hbw2 := Hb2.out.trans (hb.out.mono Hb2.out.size)
        have hcf := lib_ContainsFuncS (some ⟨b0, o0, none⟩) ai c ci n wr.heap.size L p (wr.alloc (.cells #[.slice ai n ci] 30)) (Ha.out.below (hbw2.trans (hal.mono hbw2.size))) (by omega) HPd.out (hrow.below hal) hpP hpl (by omega) hbx.lt (hbx.cell 0)
        have hst := Cv.symN_step (L := L) hp
        have hle := Cv.symN_le L R i
        have hb3 := hb.out.trans (hal.mono hb.out.size)
        have hi1 : (i : Int) < (R.length : Int) := by omega
        have hi0 : (0 : Int) ≤ (i : Int) := by omega
        generalize hS : Cv.symN L R i = S at *
        generalize hS1 : Cv.symN L R (i + 1) = S1 at *
        have HS1 := Lib.hid hS1; have Hb3 := Lib.hid hb3
        clear hp hrow hal hbx hbw2 hb3 hS hS1 hpl
        by_cases hs : Cv.Symm L p
        · rw [decide_eq_true hs] at hcf
          rw [if_pos hs] at hst
          have Hcf := Lib.hid hcf; have Hst := Lib.hid hst
          clear hs hcf hst
          go_wp2_with fail
          refine Hcf.out.mono ?_
          rintro e w3 ⟨rfl, hb4⟩
          have Hb4 := Lib.hid (Hb3.out.trans (hb4.mono Hb3.out.size)); clear hb4
          go_wp2
          go_roundw
          case rel => exact ⟨i + 1, by omega, by go_num, by rw [HS1.out, Hst.out]; go_num, Hb4⟩
          case measure => simp [intOf]; omega
        · rw [decide_eq_false hs] at hcf
          rw [if_neg hs] at hst
          have Hcf := Lib.hid hcf; have Hst := Lib.hid hst
          clear hs hcf hst
          go_wp2_with fail
          refine Hcf.out.mono ?_
          rintro e w3 ⟨rfl, hb4⟩
          have Hb4 := Lib.hid (Hb3.out.trans (hb4.mono Hb3.out.size)); clear hb4
          go_wp2
          go_roundw
          case rel => exact ⟨i + 1, by omega, by go_num, by rw [HS1.out, Hst.out]; go_num, Hb4⟩
          case measure => simp [intOf]; omega
      · obtain rfl : i = R.length := by omega
        have Hbw2 := Lib.hid (Hb2.out.trans (hb.out.mono Hb2.out.size))
        generalize ((Cv.symN L R R.length : Nat) : Int) = S at *
        go_wp2
        go_ret
        exact ⟨by rw [← HV.out]; rfl, Hbw2.out⟩
  · rw [decide_eq_false hP] at hcP
    rw [Cv.symms_not hP]
    have HcP := Lib.hid hcP
    clear hcP hP ha hL
    go_enter Tryz.func25, Tryz.ntmps25
    go_wp2_with fail
    refine HcP.out.mono ?_
    rintro e w1 ⟨rfl, hb1⟩
    have Hb1 := Lib.hid hb1; clear hb1
    go_wp2
    go_ret
    exact ⟨rfl, Hb1.out⟩
end Go.Proofs.YtamgimdjnmcpaaaGreat
namespace Go.Proofs.YtamgimdjnmcpaaaGreat
open Go.RowKit

set_option maxRecDepth 10000 in
set_option maxHeartbeats 4000000 in
theorem spec_SheetSymmetries (a : Option Addr) (c : Nat) (L : List (List Int)) (w : World) (ha : GridAt w a L) (hL : ∀ p ∈ L, p.length ≤ 1048576) (hn : L.length ≤ 1048576) :
    Calls Tryz.prog 26 #[.slice a L.length c] w fun e w' => e = .returned (.int .i64 (Cv.symms L)) ∧ Below w.heap.size w w' := by
  have hcP := spec_l9Perms a c L w ha hL hn
  by_cases hP : Cv.Perms L
  · rw [decide_eq_true hP] at hcP
    have h5 := hP.2.2.2.2
    have hl1 := hP.2.1
    have hl8 := hP.2.2.1
    obtain ⟨r0, hr0, hr0l⟩ := Cv.head_get (L := L) (by omega)
    obtain ⟨b0, o0, a0, c0, rfl, hbw0, hcell0, _⟩ := ha.get hr0
    rw [Nat.add_zero, hr0l] at hcell0
    have i2 : 0 < L.length := by omega
    have hPd := hP.1
    obtain ⟨V, hV⟩ : ∃ V, Cv.symms L = V := ⟨_, rfl⟩
    rw [hV]
    rw [Cv.symms_of hP] at hV
    have hq := fun r (hr : r ∈ Mp.natRows (Cv.all (Cv.deg L))) => Cv.all_isP hr
    have hper := fun W => spec_l9All (Cv.deg L) W h5
    have hRl : (Mp.natRows (Cv.all (Cv.deg L))).length ≤ 120 := by rw [Cv.natRows_size]; exact Cv.all_few h5
    generalize Mp.natRows (Cv.all (Cv.deg L)) = R at *
    generalize Cv.deg L = n at *
    have Ha := Lib.hid ha; have Hc0 := Lib.hid hcell0; have HPd := Lib.hid hPd; have HV := Lib.hid hV; have Hq := Lib.hid hq; have Hper := Lib.hid hper; have HcP := Lib.hid hcP
    clear ha hP hr0 hr0l hcell0 hPd hV hq hper hcP hL
    go_enter Tryz.func26, Tryz.ntmps26
    go_wp2_with fail
    refine HcP.out.mono ?_
    rintro e w1 ⟨rfl, hb1⟩
    have Hb1 := Lib.hid hb1; clear hb1
    have c1 : w1.cell? ⟨b0, o0, none⟩ = some (.slice a0 n c0) := by rw [Hb1.out.cell hbw0]; exact Hc0.out
    go_wp2_with fail
    refine (Hper.out w1).mono ?_
    rintro e w2 ⟨ra, rc, rfl, _, _, hg2, hb2⟩
    have Hb2 := Lib.hid (Hb1.out.trans (hb2.mono Hb1.out.size)); have Hg2 := Lib.hid hg2.grid
    clear hg2 hb2 c1
    go_wp2
    go_loopw [3, 5, 6, 7, 8] (fun sv kv _ _ _ wr => ∃ k : Nat, k ≤ R.length ∧ kv = .int .i64 k ∧ sv = .int .i64 ((Cv.symN L R k : Nat) : Int) ∧ Hid (Below w2.heap.size w2 wr)) (fun _ kv _ _ _ _ => R.length - (intOf kv).toNat)
    case atStart => exact ⟨0, by omega, rfl, rfl, Lib.hid (Below.refl _ _)⟩
    case round =>
      obtain ⟨k, hk, rfl, rfl, hb⟩ := hrel
      by_cases hlt : k < R.length
      · obtain ⟨p, hp⟩ := get_some hlt
        obtain ⟨hpl, hpP⟩ := Hq.out p (get_mem hp)
        obtain ⟨b, o, ai, ci, rfl, hbw, hcell, hrow⟩ := Hg2.out.get hp
        rw [hpl] at hcell
        have hpn : ∀ s, s < n → Mp.at_ p s < n := fun s hs => by have := Mp.at_lt hpP (d := s) (by omega); omega
        have hpc : ∀ s, s < n → ∃ b' o', ai = some ⟨b', o', none⟩ ∧ ∀ W, Below w2.heap.size w2 W → W.cell? ⟨b', o' + s, none⟩ = some (.int .i64 ((Mp.at_ p s : Nat) : Int)) := fun s hs => by
          obtain ⟨b', o', e', hb', hc'⟩ := intCells_get? hrow (Mp.at_get hpP (d := s) (by omega))
          exact ⟨b', o', e', fun W hW => by rw [hW.cell hb']; exact hc'⟩
        have hpk : ∀ W, Below w2.heap.size w2 W → W.cell? ⟨b, o + k, none⟩ = some (.slice ai n ci) := fun W hW => by rw [hW.cell hbw]; exact hcell
        have hst := Cv.symN_step (L := L) hp
        have hle := Cv.symN_le L R k
        have k0 : (0 : Int) ≤ (k : Int) := by omega
        have k1 : (k : Int) < (R.length : Int) := by omega
        generalize hS : Cv.symN L R k = S at *
        generalize hS1 : Cv.symN L R (k + 1) = S1 at *
        have HS1 := Lib.hid hS1; have Hst := Lib.hid hst; have Hpn := Lib.hid hpn; have Hpc := Lib.hid hpc; have Hpk := Lib.hid hpk
        have dlk : decide (k < R.length) = true := decide_eq_true hlt
        clear hp hrow hcell hS hS1 hpl hst hpn hpc hpk hpP
        go_wp2
        go_loopw [6, 7, 8] (fun fv iv _ wr => ∃ i : Nat, i ≤ L.length ∧ iv = .int .i64 i ∧ ∃ fb : Bool, fv = .bool fb ∧ Hid (fb = true ↔ ∀ q ∈ L.take i, Cv.Comm p q) ∧ Hid (Below w2.heap.size w2 wr)) (fun _ iv _ _ => L.length - (intOf iv).toNat)
        case atStart => exact ⟨0, by omega, rfl, true, rfl, Lib.hid (by simp), hb⟩
        case round =>
          clear hb
          obtain ⟨i, hi, rfl, fb, rfl, hfb, hb⟩ := hrel
          have hbw' := Hb2.out.trans (hb.out.mono Hb2.out.size)
          by_cases hlti : i < L.length
          · obtain ⟨q, hqq⟩ := get_some hlti
            obtain ⟨hql, hqP⟩ := HPd.out q (get_mem hqq)
            obtain ⟨bq, oq, aq, cq, e0, hbwq, hcellq, hrowq⟩ := Ha.out.get hqq
            cases e0
            rw [hql] at hcellq
            have hqn : ∀ s, s < n → Mp.at_ q s < n := fun s hs => by have := Mp.at_lt hqP (d := s) (by omega); omega
            have hqc : ∀ s, s < n → ∃ b' o', aq = some ⟨b', o', none⟩ ∧ ∀ W, Below w2.heap.size w2 W → W.cell? ⟨b', o' + s, none⟩ = some (.int .i64 ((Mp.at_ q s : Nat) : Int)) := fun s hs => by
              obtain ⟨b', o', e', hb', hc'⟩ := intCells_get? hrowq (Mp.at_get hqP (d := s) (by omega))
              exact ⟨b', o', e', fun W hW => by rw [(Hb2.out.trans (hW.mono Hb2.out.size)).cell hb']; exact hc'⟩
            have hqk : ∀ W, Below w2.heap.size w2 W → W.cell? ⟨b0, o0 + i, none⟩ = some (.slice aq n cq) := fun W hW => by rw [(Hb2.out.trans (hW.mono Hb2.out.size)).cell hbwq]; exact hcellq
            have htk : L.take (i + 1) = L.take i ++ [q] := by
              obtain ⟨h2, rfl⟩ := List.getElem?_eq_some_iff.1 hqq
              rw [List.take_succ_eq_append_getElem h2]
            have Hqn := Lib.hid hqn; have Hqc := Lib.hid hqc; have Hqk := Lib.hid hqk; have Htk := Lib.hid htk; have Hql := Lib.hid hql
            have i0 : (0 : Int) ≤ (i : Int) := by omega
            have i1 : (i : Int) < (L.length : Int) := by omega
            have dli : decide (i < L.length) = true := decide_eq_true hlti
            clear hqq hrowq hcellq hql hqn hqc hqk hqP htk hbw'
            go_wp2
            go_loopw [6, 8] (fun fv sv wr => ∃ s : Nat, s ≤ n ∧ sv = .int .i64 s ∧ ∃ fb : Bool, fv = .bool fb ∧ Hid (fb = true ↔ (∀ q ∈ L.take i, Cv.Comm p q) ∧ Cv.CommTo p q s) ∧ Hid (Below w2.heap.size w2 wr)) (fun _ sv _ => n - (intOf sv).toNat)
            case atStart => exact ⟨0, by omega, rfl, fb, rfl, Lib.hid ⟨fun h => ⟨hfb.out.1 h, fun s hs => absurd hs (by omega)⟩, fun h => hfb.out.2 h.1⟩, hb⟩
            case round =>
              clear hb hfb
              obtain ⟨s, hs, rfl, fc, rfl, hfb, hb⟩ := hrel
              have dq := Hqk.out wr hb.out
              by_cases hlts : s < n
              · obtain ⟨bp, op, rfl, hc1⟩ := Hpc.out s hlts
                obtain ⟨bq', oq', rfl, hc2⟩ := Hqc.out s hlts
                obtain ⟨_, _, e3, hc3⟩ := Hpc.out (Mp.at_ q s) (Hqn.out s hlts)
                cases e3
                obtain ⟨_, _, e4, hc4⟩ := Hqc.out (Mp.at_ p s) (Hpn.out s hlts)
                cases e4
                have d1 := hc1 wr hb.out
                have d2 := hc2 wr hb.out
                have d3 := hc3 wr hb.out
                have d4 := hc4 wr hb.out
                have d5 := Hpk.out wr hb.out
                have hx := Hpn.out s hlts
                have hy := Hqn.out s hlts
                have Hto := Lib.hid (show Cv.CommTo p q (s + 1) ↔ Cv.CommTo p q s ∧ Mp.at_ p (Mp.at_ q s) = Mp.at_ q (Mp.at_ p s) from ⟨fun h => ⟨fun t ht => h t (by omega), h s (by omega)⟩, fun h => h.1.step h.2⟩)
                generalize hu : Mp.at_ p (Mp.at_ q s) = u at *
                generalize hv : Mp.at_ q (Mp.at_ p s) = v at *
                generalize Mp.at_ p s = x at *
                generalize Mp.at_ q s = y at *
                have s0 : (0 : Int) ≤ (s : Int) := by omega
                have s1 : (s : Int) < (n : Int) := by omega
                have x0 : (0 : Int) ≤ (x : Int) := by omega
                have x1 : (x : Int) < (n : Int) := by omega
                have y0 : (0 : Int) ≤ (y : Int) := by omega
                have y1 : (y : Int) < (n : Int) := by omega
                clear hc1 hc2 hc3 hc4 hu hv
                cases fc with
                | true =>
                  obtain ⟨be, hbe⟩ : ∃ be : Bool, ((u : Int) == (v : Int)) = be := ⟨_, rfl⟩
                  have Hnew := Lib.hid (show be = true ↔ (∀ q ∈ L.take i, Cv.Comm p q) ∧ Cv.CommTo p q (s + 1) from by
                    have h1 := hfb.out.1 rfl
                    rw [Hto.out, ← hbe, beq_iff_eq]
                    exact ⟨fun h => ⟨h1.1, h1.2, by omega⟩, fun h => by have := h.2.2; omega⟩)
                  go_wp2
                  go_quiet (fail)
                  go_wp2
                  go_roundw
                  case rel => exact ⟨s + 1, by omega, by go_num, be, rfl, Hnew, Lib.hid (below_drewN hb.out _)⟩
                  case measure => simp [intOf]; omega
                | false =>
                  have Hnew := Lib.hid (show false = true ↔ (∀ q ∈ L.take i, Cv.Comm p q) ∧ Cv.CommTo p q (s + 1) from by
                    refine ⟨fun h => (by cases h), fun h => ?_⟩
                    exact hfb.out.2 ⟨h.1, (Hto.out.1 h.2).1⟩)
                  clear d1 d2 d3 d4 d5
                  go_wp2
                  go_quiet (fail)
                  go_wp2
                  go_roundw
                  case rel => exact ⟨s + 1, by omega, by go_num, false, rfl, Hnew, Lib.hid (below_drewN hb.out _)⟩
                  case measure => simp [intOf]; omega
              · obtain rfl : n = s := by omega
                have Hnew := Lib.hid (show fc = true ↔ ∀ r ∈ L.take (i + 1), Cv.Comm p r from by
                  rw [hfb.out, Htk.out]
                  constructor
                  · rintro ⟨h1, h2⟩ r hr
                    rcases List.mem_append.1 hr with hr | hr
                    · exact h1 r hr
                    · rw [List.mem_singleton.1 hr]
                      intro t ht; rw [Hql.out] at ht; exact h2 t ht
                  · intro h
                    refine ⟨fun r hr => h r (List.mem_append.2 (Or.inl hr)), fun t ht => ?_⟩
                    exact h q (List.mem_append.2 (Or.inr (List.mem_singleton.2 rfl))) t (by rw [Hql.out]; exact ht))
                go_wp2
                go_roundw
                case rel => exact ⟨i + 1, by omega, by go_num, fc, rfl, Hnew, hb⟩
                case measure => simp [intOf]; omega
          · obtain rfl : i = L.length := by omega
            rw [List.take_of_length_le (Nat.le_refl _)] at hfb
            have hbit := fun W => spec_l1Bit fb W
            have Hsum := Lib.hid (show S1 = S + if fb = true then 1 else 0 from by
              rw [Hst.out]
              by_cases h : Cv.Symm L p
              · rw [if_pos h, if_pos (hfb.out.2 h)]
              · rw [if_neg h, if_neg fun e => h (hfb.out.1 e)])
            have hbz : (if fb = true then (1 : Int) else 0) = ((if fb = true then 1 else 0 : Nat) : Int) := by split <;> rfl
            rw [hbz] at hbit
            have hz1 : (if fb = true then 1 else 0 : Nat) ≤ 1 := by split <;> omega
            generalize (if fb = true then 1 else 0 : Nat) = z at *
            have Hbit := Lib.hid hbit
            clear hbit hbz hbw'
            go_wp2_with fail
            refine (Hbit.out _).mono ?_
            rintro e w3 ⟨rfl, hw3⟩
            rw [hw3]; clear hw3 w3
            go_wp2
            go_roundw
            case rel => exact ⟨k + 1, by omega, by go_num, by rw [HS1.out, Hsum.out]; go_num, hb⟩
            case measure => simp [intOf]; omega
      · obtain rfl : k = R.length := by omega
        have Hbw2 := Lib.hid (Hb2.out.trans (hb.out.mono Hb2.out.size))
        generalize ((Cv.symN L R R.length : Nat) : Int) = S at *
        go_wp2
        go_ret
        exact ⟨by rw [← HV.out]; rfl, Hbw2.out⟩
  · rw [decide_eq_false hP] at hcP
    rw [Cv.symms_not hP]
    have HcP := Lib.hid hcP
    clear hcP hP ha hL
    go_enter Tryz.func26, Tryz.ntmps26
    go_wp2_with fail
    refine HcP.out.mono ?_
    rintro e w1 ⟨rfl, hb1⟩
    have Hb1 := Lib.hid hb1; clear hb1
    go_wp2
    go_ret
    exact ⟨rfl, Hb1.out⟩
end Go.Proofs.YtamgimdjnmcpaaaGreat
