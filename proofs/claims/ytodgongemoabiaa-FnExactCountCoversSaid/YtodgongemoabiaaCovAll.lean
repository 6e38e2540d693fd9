/-
  The walk of the model's list of all orders.
-/
import Derived.Test.YtodgongemoabiaaBase
import Derived.Test.YtodgongemoabiaaSlice
import Derived.Test.YtodgongemoabiaaIntRow
import Derived.Test.YtodgongemoabiaaInts
import Derived.Test.YtodgongemoabiaaOwn
import Derived.Test.YtodgongemoabiaaAppend
import Derived.Test.YtodgongemoabiaaGrid
import Derived.Test.YtodgongemoabiaaGridWalk
import Derived.Test.YtodgongemoabiaaGridRows
import Derived.Test.YtodgongemoabiaaRowsLit
import Derived.Test.YtodgongemoabiaaGridS
import Derived.Test.YtodgongemoabiaaClass
import Derived.Test.YtodgongemoabiaaLab
import Derived.Test.YtodgongemoabiaaMap
import Derived.Test.YtodgongemoabiaaMapTopo
import Derived.Test.YtodgongemoabiaaCov
import Derived.Deep.QuietTactic
import Derived.BigQuiet
import Derived.StillTailTactics
namespace Go.Proofs.Ytodgongemoabiaa
open Go.RowKit

namespace Cv
theorem put_len (o : List Nat) {x p : Nat} (hp : p ≤ o.length) : (Gr.put o x p).length = o.length + 1 := by
  have := (Gr.put_perm o x p).length_eq; simpa using this
theorem put_cells (o : List Nat) (x p : Nat) : intCells (intsOf (o.take p)) ++ [.int .i64 ((x : Nat) : Int)] ++ intCells (intsOf (o.drop p)) = intCells (intsOf (Gr.put o x p)) := by
  unfold Gr.put; simp [intCells, intsOf]
theorem all_few {n : Nat} (h : n ≤ 5) : (all n).length ≤ 120 := by rw [all_len]; exact Nat.le_trans (Gr.fac_mono h) (by decide +kernel)
theorem natRows_more (C : List (List Nat)) (c : List Nat) : Mp.natRows (C ++ [c]) = Mp.natRows C ++ [intsOf c] := by simp [Mp.natRows, intsOf]
theorem natRows_size (C : List (List Nat)) : (Mp.natRows C).length = C.length := by simp [Mp.natRows]
end Cv

set_option maxRecDepth 10000 in
set_option maxHeartbeats 8000000 in
theorem spec_l9All (n : Nat) (w : World) (hn : n ≤ 5) :
    Calls Try.prog 150 #[.int .i64 (n : Int)] w fun e w' => GivesRows w (Mp.natRows (Cv.all n)) e w' := by
  obtain ⟨i1, hi1, hy0, hy1, hy2⟩ := info_ints_parts
  have Hi1 := Lib.hid hi1; have Hy0 := Lib.hid hy0; have Hy1 := Lib.hid hy1; have Hy2 := Lib.hid hy2
  obtain ⟨j0, hj0, hz0, hz1, hz2⟩ := info_int_parts
  have Hj0 := Lib.hid hj0; have Hz0 := Lib.hid hz0; have Hz1 := Lib.hid hz1; have Hz2 := Lib.hid hz2
  clear hi1 hy0 hy1 hy2 hj0 hz0 hz1 hz2
  obtain ⟨N, hN⟩ : ∃ N, N = w.heap.size := ⟨_, rfl⟩
  have HN := Lib.hid hN
  have hst : GridS ((w.alloc (.cells #[] 3)).alloc (.cells #[.slice (some ⟨w.heap.size, 0, none⟩) 0 0] 42)) N ((w.alloc (.cells #[] 3)).alloc (.cells #[.slice (some ⟨w.heap.size, 0, none⟩) 0 0] 42)).heap.size (some ⟨w.heap.size + 1, 0, none⟩) (Mp.natRows (Cv.all 0)) := by
    have hb := Blk.new (w.alloc (.cells #[] 3)) 42 #[.slice (some ⟨w.heap.size, 0, none⟩) 0 0]
    rw [show (w.alloc (.cells #[] 3)).heap.size = w.heap.size + 1 from by simp] at hb
    exact ⟨[⟨some ⟨w.heap.size, 0, none⟩, 0, []⟩], rfl, RowIn.of_blk hb (by omega) hb.lt, fun h hh => by rw [List.mem_singleton.1 hh]; exact Or.inl rfl, Apts.one (Nat.le_refl _), fun h hh => by rw [List.mem_singleton.1 hh]; exact ⟨_, _, rfl⟩⟩
  have hst2 : Below N w ((w.alloc (.cells #[] 3)).alloc (.cells #[.slice (some ⟨w.heap.size, 0, none⟩) 0 0] 42)) := ((Below.refl N w).alloc (by omega) _).alloc (by simp; omega) _
  have Hst := Lib.hid hst; have Hst2 := Lib.hid hst2
  clear hst hst2 hN
  go_enter Try.func150, Try.ntmps150
  go_wp2
  go_loopw [3, 4, 5, 6, 7, 8] (fun ov kv _ _ _ _ wr => ∃ k : Nat, k ≤ n ∧ kv = .int .i64 k ∧ ∃ ao co, ov = .slice ao (Cv.all k).length co ∧ Hid (GridS wr N wr.heap.size ao (Mp.natRows (Cv.all k))) ∧ Hid (Below N w wr) ∧ Hid ((Cv.all k).length ≤ co ∧ co ≤ maxLen)) (fun _ kv _ _ _ _ _ => n - (intOf kv).toNat)
  case atStart => exact ⟨0, by omega, rfl, _, _, rfl, Hst, Hst2, Lib.hid (by show 1 ≤ 1 ∧ 1 ≤ maxLen; unfold maxLen; omega)⟩
  case round =>
    obtain ⟨k, hk, rfl, ao, co, rfl, hgr, hb, hco⟩ := hrel
    obtain ⟨wo, hwo⟩ : ∃ wo, wo = wr := ⟨_, rfl⟩
    subst hwo
    by_cases hlt : k < n
    · have hO5 := Cv.all_few (show k ≤ 5 by omega)
      have hOk : ∀ o ∈ Cv.all k, o.length = k := fun o ho => Cv.all_row ho
      have hO1 : Cv.all (k + 1) = Cv.allStep (Cv.all k) k := rfl
      have Hlt := Lib.hid hlt
      generalize hOd : Cv.all k = O at *
      have HO1 := Lib.hid hO1; have HOk := Lib.hid hOk
      have hk5 : (k : Int) ≤ 5 := by omega
      have h0k : (0 : Int) ≤ (k : Int) := by omega
      have dlt : decide (k < n) = true := decide_eq_true hlt
      clear hlt hO1 hOk hOd
      go_wp2
      go_loopw [5, 6, 7, 8] (fun nv iv _ _ wr => ∃ i : Nat, i ≤ O.length ∧ iv = .int .i64 i ∧ Hid (RowsIn wo wo.heap.size wr nv (Mp.natRows (Cv.allTo O k i 0)))) (fun _ iv _ _ _ => O.length - (intOf iv).toNat)
      case atStart => exact ⟨0, Nat.zero_le _, rfl, Lib.hid (RowsIn.made (Below.refl _ _) (Nat.le_refl _))⟩
      case round =>
        obtain ⟨i, hi, rfl, hrows⟩ := hrel
        by_cases hlt2 : i < O.length
        · obtain ⟨o, ho⟩ := get_some hlt2
          have hol := HOk.out o (get_mem ho)
          obtain ⟨bo, oo, ab, ae, ci, rfl, hci, hcell, hrow⟩ := hgr.out.cell (natRows_get ho)
          rw [intsOf_len, hol] at hci hcell
          have hnx := Cv.allTo_next (x := k) ho
          have hgd : O.getD i [] = o := by rw [List.getD_eq_getElem?_getD, ho]; rfl
          have Hcell := Lib.hid hcell; have Hrow := Lib.hid hrow; have Hnx := Lib.hid hnx; have Hgd := Lib.hid hgd; have Hol := Lib.hid hol
          have Hlt2 := Lib.hid hlt2
          have h0i : (0 : Int) ≤ (i : Int) := by omega
          have h1i : (i : Int) < (O.length : Int) := by omega
          clear hlt2 hcell hrow hnx hgd ho hol
          go_wp2
          go_loopw [5, 7, 8] (fun nv tv _ wr => ∃ j : Nat, j ≤ k + 1 ∧ tv = .int .i64 j ∧ Hid (RowsIn wo wo.heap.size wr nv (Mp.natRows (Cv.allTo O k i j)))) (fun _ tv _ _ => k + 1 - (intOf tv).toNat)
          case atStart => exact ⟨0, Nat.zero_le _, rfl, hrows⟩
          case round =>
            obtain ⟨p, hp, rfl, hrows⟩ := hrel
            obtain ⟨hs, e1, hown, hin, hap, hbl⟩ := hrows.out
            have hwo : wo.heap.size ≤ wr.heap.size := hbl.size
            have c0 := Hcell.out wr hbl
            by_cases hlt3 : p < k + 1
            · have d3 : (p : Int) ≤ (k : Int) := by omega
              have hpk : p ≤ k := by omega
              have hmore := Cv.allTo_more O k i p
              rw [Hgd.out] at hmore
              have hlnj := Cv.allTo_len (O := O) (x := k) (i := i) (j := p) (by omega)
              have hlnb : (O.length + 1) * (k + 1) ≤ 121 * 6 := Nat.mul_le_mul (by omega) (by omega)
              obtain ⟨av, cv, rfl⟩ := own_len hown
              rw [Cv.natRows_size] at hown ⊢
              have hrW := fun W (h : Below wr.heap.size wr W) => Hrow.out W (hbl.trans (h.mono hwo))
              have hcW := fun W (h : Below wr.heap.size wr W) => Hcell.out W (hbl.trans (h.mono hwo))
              have hl1 : (intCells ((intsOf o).take p)).length = p := by rw [intCells_len, List.length_take, intsOf_len, Hol.out]; omega
              have hl2 : (intCells ((intsOf o).drop p)).length = k - p := by rw [intCells_len, List.length_drop, intsOf_len, Hol.out]
              have happ : intCells ((intsOf o).take p) ++ [.int .i64 (k : Int)] ++ intCells ((intsOf o).drop p) = intCells (intsOf (Gr.put o k p)) := by
                rw [← intsOf_take, ← intsOf_drop]; exact Cv.put_cells o k p
              have hpl : (intsOf (Gr.put o k p)).length = k + 1 := by rw [intsOf_len, Cv.put_len o (by rw [Hol.out]; exact hpk), Hol.out]
              obtain ⟨A2, hA2⟩ : ∃ A2, (if ci = p then some (⟨ab, ae, none⟩ : Addr) else some ⟨ab, ae + p, none⟩) = A2 := ⟨_, rfl⟩
              have hrA := fun W (h : Below wr.heap.size wr W) => row_cut7 (m := p) (hrW W h) (by rw [intsOf_len, Hol.out]; exact hpk) (by rw [intsOf_len, Hol.out]; exact hci)
              rw [hA2] at hrA
              have Hmk := Lib.hid (own_made (w := wr) rfl)
              have HbM := Lib.hid (below_alloc7 (o := .cells #[] 3) (Below.refl wr.heap.size wr))
              have HrM := Lib.hid (hrA _ HbM.out)
              have hpush := fun w9 (hb9 : Below wr.heap.size wr w9) ta tc (hf : Fresh w9 wr.heap.size 3 ta (intCells (intsOf (Gr.put o k p)))) (htc : k + 1 ≤ tc) v11 w11 (h11 : w11.ownsRow wo.heap.size 42 1 v11 ((Cv.allTo O k i p).length + 1) (hdCells hs ++ [.slice ta (k + 1) tc])) (hg11 : (w9.alloc (.cells #[.slice ta (k + 1) tc] 42)).grownBy w11 (Value.slice av (Cv.allTo O k i p).length cv).ownBlock) => (show RowsIn wo wo.heap.size w11 v11 (Mp.natRows (Cv.allTo O k i (p + 1))) by
                rw [hmore, Cv.natRows_more]
                refine RowsIn.push (c := tc) (a := ta) (l := intsOf (Gr.put o k p)) e1 (by rw [Cv.natRows_size]; exact hown) hin hap hbl hwo hb9 hf (by rw [hpl]; exact htc) (by rw [Cv.natRows_size, hpl]; exact h11) hg11)
              have hnow := fun W (h : Below wr.heap.size wr W) => own_keep hown h (fun k hk => (hown.lt k hk).2)
              have q1 : (Cv.allTo O k i p).length + 1 ≤ maxLen := by unfold maxLen; omega
              have q2 : ((Cv.allTo O k i p).length + 1) * 24 ≤ 140737488355328 := by omega
              have HrW := Lib.hid hrW; have Hl1 := Lib.hid hl1; have Hl2 := Lib.hid hl2; have Happ := Lib.hid happ; have Hpl := Lib.hid hpl; have Hpush := Lib.hid hpush; have Hnow := Lib.hid hnow; have HcW := Lib.hid hcW
              have hr0 : (intCells (intsOf (Gr.put o k p))).length = k + 1 := by rw [intCells_len]; exact hpl
              have Hr0 := Lib.hid hr0
              clear hrW hl1 hl2 happ hpl hrA hpush hnow hmore hlnj hlnb hin hap hown e1 hrows hlt3 hcW hr0
              generalize (Cv.allTo O k i p).length = nl at *
              have hp0 : (0 : Int) ≤ (p : Int) := by omega
              have hpc : p ≤ ci := by omega
              have hpc2 : (p : Int) ≤ (ci : Int) := by omega
              have a1 : 0 + p ≤ maxLen := by unfold maxLen; omega
              have a2 : (0 + p) * 8 ≤ 140737488355328 := by omega
              have a3 : p + 1 ≤ maxLen := by unfold maxLen; omega
              have a4 : (p + 1) * 8 ≤ 140737488355328 := by omega
              have a5 : p + 1 + (k - p) ≤ maxLen := by unfold maxLen; omega
              have a6 : (p + 1 + (k - p)) * 8 ≤ 140737488355328 := by omega
              have a7 : 0 + (k - p) ≤ maxLen := by unfold maxLen; omega
              have a8 : (0 + (k - p)) * 8 ≤ 140737488355328 := by omega
              have esum : p + 1 + (k - p) = k + 1 := by omega
              have Hsum := Lib.hid esum
              have c1 := HcW.out _ HbM.out
              clear esum
              go_wp2_with (first
                | (at_builtin; refine append_row rfl (.tmp 32) (.tmp 38) 42 rfl wr.heap.size 3 j0 _ 8 Try.underlying42 Hj0.out Hz0.out Hz1.out Hz2.out (by rfl) _ 0 (intCells []) rfl Hmk.out _ (k - p) _ (intCells ((intsOf o).drop p)) rfl HrM.out Hl2.out (intCells_one _) a7 a8 HbM.out.size ?_; intro v2 w2 hown2 hg2
                   rw [Nat.zero_add] at hown2
                   have hb2 := Below.grown HbM.out hg2 HbM.out.size (fun k hk => (Hmk.out.lt k hk).1)
                   obtain ⟨ba, bc, rfl, hbr⟩ := own_row hown2 Hl2.out
                   have Hb2 := Lib.hid hb2; have Hrest := Lib.hid (show w2.ownsRow wr.heap.size 3 1 (.slice ba (k - p) bc) (k - p) (intCells ((intsOf o).drop p)) from hown2)
                   have c2 := HcW.out w2 hb2
                   have hmk2 := own_made (w := w2) rfl
                   have Hmk2 := Lib.hid hmk2
                   have HbM2 := Lib.hid (below_alloc7 (o := .cells #[] 3) (Below.refl w2.heap.size w2))
                   have c3 := HcW.out (w2.alloc (.cells #[] 3)) (hb2.trans (HbM2.out.mono hb2.size))
                   have Hrt := Lib.hid (row_take7 (m := p) (HrW.out (w2.alloc (.cells #[] 3)) (hb2.trans (HbM2.out.mono hb2.size))))
                   clear hown2 hg2 hb2 hbr hmk2)
                | (at_builtin; refine append_row rfl (.tmp 41) (.tmp 47) 42 rfl w2.heap.size 3 j0 _ 8 Try.underlying42 Hj0.out Hz0.out Hz1.out Hz2.out (by rfl) _ 0 (intCells []) rfl Hmk2.out _ p _ (intCells ((intsOf o).take p)) rfl Hrt.out Hl1.out (intCells_one _) a1 a2 HbM2.out.size ?_; intro v5 w5 hown5 hg5
                   rw [Nat.zero_add] at hown5
                   have hb5 := Below.grown HbM2.out hg5 HbM2.out.size (fun k hk => (Hmk2.out.lt k hk).1)
                   obtain ⟨av5, cv5, rfl⟩ := own_len hown5
                   have Hown5 := Lib.hid (show w5.ownsRow w2.heap.size 3 1 (.slice av5 p cv5) p (intCells ((intsOf o).take p)) from hown5); have Hb5 := Lib.hid hb5
                   have hz5 : w2.heap.size ≤ w5.heap.size := hb5.size
                   clear hown5 hg5 hb5)
                | (at_builtin; refine append_one rfl (.tmp 48) (.tmp 50) 42 rfl w2.heap.size 3 j0 _ 8 Try.underlying42 Hj0.out Hz0.out Hz1.out Hz2.out (by rfl) _ _ _ rfl Hown5.out (by rfl) _ rfl a3 a4 hz5 ?_; intro v7 w7 hown7 hg7 _
                   have hb7 := Below.grown (Hb5.out.alloc hz5 _) hg7 (by simp; omega) (fun k hk => (Hown5.out.lt k hk).1)
                   obtain ⟨av7, cv7, rfl⟩ := own_len hown7
                   have Hown7 := Lib.hid hown7; have Hb7 := Lib.hid hb7
                   obtain ⟨xa, xc, ex, hxr⟩ := own_row (own_keep Hrest.out hb7 (fun k hk => (Hrest.out.lt k hk).2)) Hl2.out
                   cases ex
                   have Hxr := Lib.hid hxr
                   have hz7 : w2.heap.size ≤ w7.heap.size := hb7.size
                   clear hown7 hg7 hb7 hxr)
                | (at_builtin; refine append_row rfl (.tmp 51) (.tmp 52) 42 rfl w2.heap.size 3 j0 _ 8 Try.underlying42 Hj0.out Hz0.out Hz1.out Hz2.out (by rfl) _ _ _ rfl Hown7.out _ (k - p) _ (intCells ((intsOf o).drop p)) rfl Hxr.out Hl2.out (intCells_one _) a5 a6 hz7 ?_; intro v9 w9 hown9 hg9
                   have hb9 := Below.grown Hb7.out hg9 hz7 (fun k hk => (Hown7.out.lt k hk).1)
                   rw [Happ.out, Hsum.out] at hown9
                   obtain ⟨ta, tc, rfl, htc, hf9⟩ := own_fresh hown9 Hr0.out
                   have hbw9 := Hb2.out.trans (hb9.mono Hb2.out.size)
                   have Hbw9 := Lib.hid hbw9; have Hf9 := Lib.hid (hf9.mono Hb2.out.size); have Htc := Lib.hid htc
                   have Hnow9 := Lib.hid (Hnow.out w9 hbw9)
                   have hz9 : wo.heap.size ≤ w9.heap.size := Nat.le_trans hwo hbw9.size
                   clear hown9 hg9 hb9 hf9 htc hbw9)
                | (at_builtin; refine append_one rfl (.tmp 40) (.tmp 54) 24 rfl wo.heap.size 42 i1 _ 24 Try.underlying24 Hi1.out Hy0.out Hy1.out Hy2.out (by rfl) _ _ _ rfl Hnow9.out (by rfl) _ rfl q1 q2 hz9 ?_; intro v11 w11 hown11 hg11 _
                   obtain ⟨av11, cv11, rfl⟩ := own_len hown11
                   have HP := Lib.hid (Hpush.out w9 Hbw9.out ta tc Hf9.out Htc.out _ w11 hown11 hg11)
                   clear hown11 hg11))
              go_roundw
              case rel => exact ⟨p + 1, by omega, by go_num, HP⟩
              case measure => simp [intOf]; omega
            · obtain rfl : p = k + 1 := by omega
              have d3 : ¬ ((k + 1 : Nat) : Int) ≤ (k : Int) := by omega
              rw [Hnx.out] at hrows
              clear hlt3 hp hown hin hap e1
              generalize ((k + 1 : Nat) : Int) = z at *
              go_wp2
              go_roundw
              case rel => exact ⟨i + 1, Hlt2.out, by go_num, hrows⟩
              case measure => have := Hlt2.out; simp [intOf] <;> omega
        · obtain rfl : i = O.length := by omega
          have hrw := hrows.out
          rw [Cv.allTo_end, ← HO1.out] at hrw
          obtain ⟨a2, c2, rfl, hg2, hb2, hc1, hc2⟩ := hrw.gridIn
          have hne : ∀ r ∈ Mp.natRows (Cv.all (k + 1)), r ≠ [] := fun r hr => by
            unfold Mp.natRows at hr
            obtain ⟨o, ho, rfl⟩ := List.mem_map.1 hr
            have := Cv.all_row ho
            intro e
            have e2 := congrArg List.length e
            simp [this] at e2
          have hNo : N ≤ wo.heap.size := by have := hb.out.size; have := HN.out; omega
          have Hg2 := Lib.hid ((GridS.of hg2 hne))
          have Hb2 := Lib.hid (hb.out.trans (hb2.mono hNo))
          have hlen : (Mp.natRows (Cv.all (k + 1))).length = (Cv.all (k + 1)).length := Cv.natRows_size _
          rw [hlen] at hc1 ⊢
          have Hc := Lib.hid (And.intro hc1 hc2)
          clear hc1 hc2
          clear hrw hg2 hb2 hne hlt2 hlen
          go_wp2
          go_roundw
          case rel => exact ⟨k + 1, Hlt.out, by go_num, _, _, rfl, Lib.hid (by
            obtain ⟨hs, e1, e2, e3, e4, e5⟩ := Hg2.out
            exact ⟨hs, e1, e2.mono hNo (Nat.le_refl _), fun h hh => (e3 h hh).mono hNo (Nat.le_refl _), e4, e5⟩), Hb2, Hc⟩
          case measure => have := Hlt.out; simp [intOf] <;> omega
    · obtain rfl : n = k := by omega
      clear hlt
      go_wp2
      go_ret
      have hg := hgr.out.gridIn
      rw [HN.out] at hg
      have hc := hco.out
      exact ⟨_, _, by rw [Cv.natRows_size]; rfl, by rw [Cv.natRows_size]; exact hc.1, hc.2, hg, by have := hb.out; rw [HN.out] at this; exact this⟩
end Go.Proofs.Ytodgongemoabiaa
