/-
  The walks of the program's and the model's TurnPolygon and MirrorPolygon, and of what they call.
-/
import Derived.Test.YtamgimdjnmcpaaaDoorBase
import Derived.Test.YtamgimdjnmcpaaaDoorSlice
import Derived.Test.YtamgimdjnmcpaaaDoorIntRow
import Derived.Test.YtamgimdjnmcpaaaDoorInts
import Derived.Test.YtamgimdjnmcpaaaDoorOwn
import Derived.Test.YtamgimdjnmcpaaaDoorGrid
import Derived.Test.YtamgimdjnmcpaaaDoorGridWalk
import Derived.Test.YtamgimdjnmcpaaaDoorGridRows
import Derived.Test.YtamgimdjnmcpaaaDoorWord
import Derived.Test.YtamgimdjnmcpaaaDoorGlue
import Derived.Test.YtamgimdjnmcpaaaDoorIsWord
import Derived.Test.YtamgimdjnmcpaaaDoorIsGluing
import Derived.Test.YtamgimdjnmcpaaaDoorAppend
import Derived.Test.YtamgimdjnmcpaaaDoorTurn
import Derived.Test.YtamgimdjnmcpaaaDoorInvert
import Derived.Test.YtamgimdjnmcpaaaDoorMove
import Derived.Test.YtamgimdjnmcpaaaDoorMoveA
namespace Go.Proofs.YtamgimdjnmcpaaaDoor
open Go.RowKit


set_option maxRecDepth 10000 in
set_option maxHeartbeats 1000000 in
theorem spec_l5Copy (a : Option Addr) (c : Nat) (L : List (List Int)) (w : World) (ha : GridAt w a L) (hl : tot L ≤ 1048576) :
    Calls Tryd.prog 65 #[.slice a L.length c] w fun e w' => ∃ v, e = .returned v ∧ Held w' w.heap.size v L ∧ Below w.heap.size w w' := by
  obtain ⟨i0, hi0, hz0, hz1, hz2⟩ := info_ints_parts
  have Hi0 := Lib.hid hi0; have Hz0 := Lib.hid hz0; have Hz1 := Lib.hid hz1; have Hz2 := Lib.hid hz2
  obtain ⟨j0, hj0, hy0, hy1, hy2⟩ := info_int_parts
  have Hj0 := Lib.hid hj0; have Hy0 := Lib.hid hy0; have Hy1 := Lib.hid hy1; have Hy2 := Lib.hid hy2
  have hln : L.length ≤ 1048576 := by unfold tot at hl; omega
  have HL := Lib.hid hl; have Ha := Lib.hid ha
  have hmd := made_rows (w := w) rfl
  have hbm := (Below.refl w.heap.size w).alloc (Nat.le_refl _) (.cells #[] 24)
  generalize hN : w.heap.size = N at *
  have HN := Lib.hid hN; have Hmd := Lib.hid hmd; have Hbm := Lib.hid hbm
  clear hi0 hz0 hz1 hz2 hj0 hy0 hy1 hy2 hl ha hmd hbm
  go_enter Tryd.func65, Tryd.ntmps65
  go_wp2
  go_loopw [3, 4] (fun ov iv wr => ∃ i : Nat, i ≤ L.length ∧ iv = .int .i64 i ∧ Hid (Below N w wr) ∧ (∃ hs : List Hd, hs.map Hd.l = L.take i ∧ wr.ownsRow N 24 1 ov i (hdCells hs) ∧ Hid ((∀ h ∈ hs, RowIn wr N wr.heap.size 3 h.a (intCells h.l)) ∧ Apts hs))) (fun _ iv _ => L.length - (intOf iv).toNat)
  case atStart => exact ⟨0, by omega, rfl, Hbm, [], by simp, by have := Hmd.out; simpa [HN.out] using this, Lib.hid ⟨fun _ h => (by cases h), Apts.nil⟩⟩
  case round =>
    obtain ⟨i, hi, rfl, hb, hs, h1, hown, h3⟩ := hrel
    by_cases hlt : i < L.length
    · obtain ⟨b, o, ai, ci, rfl, hbw, hcell0, hrow⟩ := Ha.out.at hlt
      have hcell : wr.cell? ⟨b, o + i, none⟩ = some (.slice ai L[i].length ci) := by rw [hb.out.cell (by rw [← HN.out]; exact hbw)]; exact hcell0
      have hNw : N ≤ wr.heap.size := by have := hb.out.size; rw [HN.out] at this; exact this
      have Hrow := Lib.hid (hrow.below (by rw [HN.out]; exact hb.out.alloc hNw (.cells #[] 3)))
      have hll : L[i].length ≤ 1048576 := by have := len_le_sumLen hlt; have := HL.out; unfold tot at this; omega
      have Htk : Hid (L.take (i + 1) = L.take i ++ [L[i]]) := Lib.hid (List.take_succ_eq_append_getElem hlt)
      generalize L[i] = r at *
      have hbw2 : b < wr.heap.size := by have := HN.out; omega
      have hcell2 : (wr.alloc (.cells #[] 3)).cell? ⟨b, o + i, none⟩ = some (.slice ai r.length ci) := by rw [((Below.refl wr.heap.size wr).alloc (Nat.le_refl _) (.cells #[] 3)).cell hbw2]; exact hcell
      clear hcell0 hbw hrow
      have Hmk := Lib.hid (own_made (w := wr) rfl)
      have H1 := Lib.hid h1; have Hown := Lib.hid hown
      clear h1
      have hc1 : 0 + r.length ≤ maxLen := by unfold maxLen; omega
      have hc2 : (0 + r.length) * 8 ≤ 140737488355328 := by omega
      have hd1 : i + 1 ≤ maxLen := by unfold maxLen; omega
      have hd2 : (i + 1) * 24 ≤ 140737488355328 := by omega
      obtain ⟨ova, ovc, rfl⟩ := own_len hown
      clear hown
      go_wp2_with (at_builtin; first
        | (refine append_row rfl (.tmp 13) (.tmp 17) 24 rfl wr.heap.size 3 j0 _ 8 Tryd.underlying24 Hj0.out Hy0.out Hy1.out Hy2.out (by rfl) _ 0 (intCells []) rfl Hmk.out _ r.length _ (intCells r) rfl Hrow.out (intCells_len _) (intCells_one _) hc1 hc2 (by simp) ?_; intro v1 w1 hown1 hg1; rw [Nat.zero_add] at hown1; have hbg := Below.grown ((Below.refl wr.heap.size wr).alloc (Nat.le_refl _) _) hg1 (by simp) (fun k hk => by injection hk with hk; exact Nat.le_of_eq hk); have hfr := own_fresh hown1 (by simp [intCells_len]); obtain ⟨ra, rc, rfl, hrc, hfr⟩ := hfr; have hown2 := own_keep Hown.out hbg (fun k hk => (Hown.out.lt k hk).2); have hN2 : N ≤ w1.heap.size := Nat.le_trans hNw hbg.size; have Hbg := Lib.hid hbg; have Hfr := Lib.hid hfr; have Hrc := Lib.hid hrc; have Hown2 := Lib.hid hown2; clear hown1 hg1 hbg hfr hrc hown2)
        | (refine append_one rfl (.tmp 12) (.tmp 19) 31 rfl N 24 i0 _ 24 Tryd.underlying31 Hi0.out Hz0.out Hz1.out Hz2.out (by rfl) _ _ _ rfl Hown2.out (by rfl) _ rfl hd1 hd2 hN2 ?_; intro v2 w2 hown3 hg2 _))
      go_roundw
      case rel =>
        have hst := grid_step (c := rc) h3.out.1 h3.out.2 Hown2.out hNw Hfr.out Hbg.out hg2 Hrc.out
        refine ⟨i + 1, by omega, by go_num, Lib.hid (Below.grown ((hb.out.trans (Hbg.out.mono hNw)).alloc hN2 _) hg2 (by simp; omega) (fun k hk => (Hown2.out.lt k hk).1)), hs ++ [⟨ra, rc, r⟩], ?_, ?_, Lib.hid hst⟩
        · rw [List.map_append, H1.out, Htk.out]; rfl
        · rw [← hdCells_snoc]; exact hown3
      case measure => simp [intOf]; omega
    · obtain rfl : i = L.length := by omega
      rw [List.take_of_length_le (Nat.le_refl _)] at h1
      have Hown := Lib.hid hown
      obtain ⟨ova, ovc, rfl⟩ := own_len hown
      clear hown
      go_wp2
      go_ret
      exact ⟨_, rfl, ⟨hs, h1, Hown.out, h3.out.1, h3.out.2⟩, hb.out⟩
end Go.Proofs.YtamgimdjnmcpaaaDoor
