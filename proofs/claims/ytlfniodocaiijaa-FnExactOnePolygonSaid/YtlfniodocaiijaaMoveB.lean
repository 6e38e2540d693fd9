/-
  The walks of the program's and the model's TurnPolygon and MirrorPolygon, and of what they call.
-/
import Derived.Test.YtlfniodocaiijaaBase
import Derived.Test.YtlfniodocaiijaaSlice
import Derived.Test.YtlfniodocaiijaaIntRow
import Derived.Test.YtlfniodocaiijaaInts
import Derived.Test.YtlfniodocaiijaaOwn
import Derived.Test.YtlfniodocaiijaaGrid
import Derived.Test.YtlfniodocaiijaaGridWalk
import Derived.Test.YtlfniodocaiijaaGridRows
import Derived.Test.YtlfniodocaiijaaWord
import Derived.Test.YtlfniodocaiijaaGlue
import Derived.Test.YtlfniodocaiijaaIsWord
import Derived.Test.YtlfniodocaiijaaIsGluing
import Derived.Test.YtlfniodocaiijaaAppend
import Derived.Test.YtlfniodocaiijaaTurn
import Derived.Test.YtlfniodocaiijaaInvert
import Derived.Test.YtlfniodocaiijaaMove
import Derived.Test.YtlfniodocaiijaaMoveA
namespace Go.Proofs.Ytlfniodocaiijaa
open Go.RowKit

set_option maxRecDepth 10000 in
set_option maxHeartbeats 1000000 in
theorem impl_withPolygon (a ra : Option Addr) (c rc lo p : Nat) (L : List (List Int)) (r : List Int) (w : World) (ha : GridAt w a L) (hl : tot L ≤ 1048576) (hp : p < L.length) (hr : RowIn w lo w.heap.size 3 ra (intCells r)) (hlo : lo ≤ w.heap.size) (hrc : r.length ≤ rc) :
    Calls Try.prog 51 #[.slice a L.length c, .int .i64 (p : Int), .slice ra r.length rc] w fun e w' => ∃ v, e = .returned v ∧ Held w' lo v (L.set p r) ∧ Below w.heap.size w w' := by
  have Hc := Lib.hid (impl_copyPolygons a c L w ha hl)
  obtain ⟨q, hq⟩ := get_some hp
  have Hq := Lib.hid hq; have Hr := Lib.hid hr; have Hlo := Lib.hid hlo; have Hrc := Lib.hid hrc
  clear ha hr hlo hq hrc
  generalize hN : w.heap.size = N at *
  have HN := Lib.hid hN; clear hN
  go_enter Try.func51, Try.ntmps51
  go_wp2_with fail
  refine Hc.out.mono ?_
  rintro e w1 ⟨rfl, hh, hb⟩
  obtain ⟨ai, ci, hcell, _, _⟩ := hh.cell Hq.out
  have hfz := hh.frozen p
  have Hh := Lib.hid hh; have Hb := Lib.hid hb
  clear hh hb
  go_wp2
  go_ret
  exact ⟨_, rfl, Hh.out.put hp (Hr.out.below (by rw [HN.out]; exact Hb.out)) Hlo.out Hrc.out, Hb.out.setCell (Nat.le_refl _) _⟩
set_option maxRecDepth 10000 in
set_option maxHeartbeats 1000000 in
theorem impl_hasPolygon (a : Option Addr) (c : Nat) (L : List (List Int)) (p : Int) (w : World) (ha : GridAt w a L) (hl : tot L ≤ 1048576) :
    Calls Try.prog 49 #[.slice a L.length c, .int .i64 p] w fun e w' => e = .returned (.bool (decide (Mv.Has L p))) ∧ Below w.heap.size w w' := by
  have hG := impl_IsGluing a c L w ha hl
  by_cases hg : Glue.IsG L
  · rw [decide_eq_true hg] at hG
    have HG := Lib.hid hG; clear hG
    have hd : decide (Mv.Has L p) = (decide (0 ≤ p) && decide (p < (L.length : Int))) := by
      rw [← Bool.decide_and]; exact decide_eq_decide.2 ⟨fun h => h.2, fun h => ⟨hg, h⟩⟩
    rw [hd]
    by_cases h0 : 0 ≤ p
    · have d0 : decide ((0 : Int) ≤ p) = true := decide_eq_true h0
      go_enter Try.func49, Try.ntmps49
      go_wp2_with fail
      refine HG.out.mono ?_
      rintro e w1 ⟨rfl, hb1⟩
      go_wp2
      go_ret
      exact ⟨by simp [d0], hb1⟩
    · have d0 : decide ((0 : Int) ≤ p) = false := decide_eq_false h0
      go_enter Try.func49, Try.ntmps49
      go_wp2_with fail
      refine HG.out.mono ?_
      rintro e w1 ⟨rfl, hb1⟩
      go_wp2
      go_ret
      exact ⟨by simp [d0], hb1⟩
  · rw [decide_eq_false hg] at hG
    have HG := Lib.hid hG; clear hG
    have hd : decide (Mv.Has L p) = false := decide_eq_false fun h => hg h.1
    rw [hd]
    go_enter Try.func49, Try.ntmps49
    go_wp2_with fail
    refine HG.out.mono ?_
    rintro e w1 ⟨rfl, hb1⟩
    go_wp2
    go_ret
    exact ⟨by simp, hb1⟩
set_option maxRecDepth 10000 in
set_option maxHeartbeats 1000000 in
theorem impl_gluingOrNone (v : Value) (L : List (List Int)) (lo : Nat) (w : World) (hh : Held w lo v L) (hl : tot L ≤ 1048576) :
    Calls Try.prog 53 #[v] w fun e w' => ∃ v', e = .returned (.tuple #[v', .bool (decide (Glue.IsG L))]) ∧ Held w' lo v' (if Glue.IsG L then L else []) ∧ Below w.heap.size w w' := by
  have Hh := Lib.hid hh
  obtain ⟨a, c, rfl, _, _, hgr⟩ := hh.done
  have hG := impl_IsGluing a c L w hgr.grid hl
  by_cases hg : Glue.IsG L
  · rw [decide_eq_true hg] at hG
    simp only [decide_eq_true hg, if_pos hg]
    have HG := Lib.hid hG
    clear hG hgr hg hh
    go_enter Try.func53, Try.ntmps53
    go_wp2_with fail
    refine HG.out.mono ?_
    rintro e w1 ⟨rfl, hb1⟩
    go_wp2
    go_ret2
    exact ⟨_, rfl, Hh.out.below hb1, hb1⟩
  · rw [decide_eq_false hg] at hG
    simp only [decide_eq_false hg, if_neg hg]
    have HG := Lib.hid hG
    clear hG hgr hg hh
    go_enter Try.func53, Try.ntmps53
    go_wp2_with fail
    refine HG.out.mono ?_
    rintro e w1 ⟨rfl, hb1⟩
    go_wp2
    go_ret2
    exact ⟨_, rfl, ⟨[], rfl, World.ownsRow_nil _ _ _ _, fun _ h => (by cases h), Apts.nil⟩, hb1⟩

set_option maxRecDepth 10000 in
set_option maxHeartbeats 1000000 in
theorem impl_TurnPolygon (a : Option Addr) (c : Nat) (L : List (List Int)) (p k : Int) (w : World) (ha : GridC w a L) (hl : tot L ≤ 1048576) (_hp0 : -9223372036854775808 ≤ p) (_hp1 : p ≤ 9223372036854775807) (hk0 : -9223372036854775808 ≤ k) (hk1 : k ≤ 9223372036854775807) :
    Calls Try.prog 13 #[.slice a L.length c, .int .i64 p, .int .i64 k] w fun e w' => GivesRows2 w (Mv.turn L p k) (decide (Mv.Has L p)) e w' := by
  have hH := impl_hasPolygon a c L p w ha.grid hl
  by_cases h : Mv.Has L p
  · rw [decide_eq_true h] at hH
    obtain ⟨P, rfl⟩ : ∃ P : Nat, p = (P : Int) := ⟨p.toNat, by have := h.2.1; omega⟩
    have hP : P < L.length := by have := h.lt; omega
    have hPi : (P : Int) < (L.length : Int) := by omega
    have hget : L[P]? = some (Mv.row L (P : Int)) := by have := h.get; simpa using this
    have hrow : (Mv.row L (P : Int)).length ≤ 20 := h.tot
    have hw : Word.IsW (Mv.row L (P : Int)) := h.ok.2
    have hval : Mv.turn L (P : Int) k = L.set P (Word.turned (Mv.row L (P : Int)) k) := by
      unfold Mv.turn; rw [if_pos h, turned_of hw]; rfl
    rw [hval, decide_eq_true h]
    obtain ⟨b, o, ai, ci, rfl, hci, hcell0, hrw⟩ := ha.cell hget
    have hTu := fun W h1 => impl_TurnWord ai ci (Mv.row L (P : Int)) k W h1 (by omega) hci hk0 hk1
    have Ha := Lib.hid ha.grid
    have hWi := fun ra rc r W (hb : Below w.heap.size w W) => impl_withPolygon (some ⟨b, o, none⟩) ra c rc w.heap.size P L r W (Ha.out.below hb) hl hP
    generalize Mv.row L (P : Int) = r at *
    have HH := Lib.hid hH; have HTu := Lib.hid hTu; have Hrw := Lib.hid hrw; have Hcell0 := Lib.hid hcell0; have HWi := Lib.hid hWi
    clear hH hTu hrw hcell0 hWi ha hget hrow hw hval h
    go_enter Try.func13, Try.ntmps13
    go_wp2_with fail
    refine HH.out.mono ?_
    rintro e w1 ⟨rfl, hb1⟩
    have hcell := Hcell0.out w1 hb1
    have Hb1 := Lib.hid hb1; clear hb1
    go_wp2_with fail
    refine (HTu.out w1 (Hrw.out w1 Hb1.out)).mono ?_
    rintro e w2 ⟨ta, tc, rfl, htc, _, hf, hb2⟩
    have Hb2 := Lib.hid (Hb1.out.trans (hb2.mono Hb1.out.size))
    have Hf := Lib.hid ((RowIn.of_fresh hf).mono Hb1.out.size (Nat.le_refl _)); have Htc := Lib.hid htc
    clear hb2 hf htc hcell
    go_wp2_with fail
    refine (HWi.out ta tc _ w2 Hb2.out Hf.out Hb2.out.size Htc.out).mono ?_
    rintro e w3 ⟨v, rfl, hh, hb3⟩
    have Hh := Lib.hid hh; have Hb3 := Lib.hid (Hb2.out.trans (hb3.mono Hb2.out.size))
    clear hh hb3
    go_wp2
    go_ret2
    exact Hh.out.gives Hb3.out
  · rw [decide_eq_false h] at hH
    have hval : Mv.turn L p k = [] := if_neg h
    rw [hval, decide_eq_false h]
    have HH := Lib.hid hH; clear hH hval h
    go_enter Try.func13, Try.ntmps13
    go_wp2_with fail
    refine HH.out.mono ?_
    rintro e w1 ⟨rfl, hb1⟩
    go_wp2
    go_ret2
    exact GivesRows2.none hb1 (Nat.zero_le _)
set_option maxRecDepth 10000 in
set_option maxHeartbeats 1000000 in
theorem impl_MirrorPolygon (a : Option Addr) (c : Nat) (L : List (List Int)) (p : Int) (w : World) (ha : GridC w a L) (hl : tot L ≤ 1048576) (_hp0 : -9223372036854775808 ≤ p) (_hp1 : p ≤ 9223372036854775807) :
    Calls Try.prog 16 #[.slice a L.length c, .int .i64 p] w fun e w' => GivesRows2 w (Mv.mirror L p) (decide (Mv.Has L p)) e w' := by
  have hH := impl_hasPolygon a c L p w ha.grid hl
  by_cases h : Mv.Has L p
  · rw [decide_eq_true h] at hH
    obtain ⟨P, rfl⟩ : ∃ P : Nat, p = (P : Int) := ⟨p.toNat, by have := h.2.1; omega⟩
    have hP : P < L.length := by have := h.lt; omega
    have hPi : (P : Int) < (L.length : Int) := by omega
    have hget : L[P]? = some (Mv.row L (P : Int)) := by have := h.get; simpa using this
    have hrow : (Mv.row L (P : Int)).length ≤ 20 := h.tot
    have hw : Word.IsW (Mv.row L (P : Int)) := h.ok.2
    have hval : Mv.mirror L (P : Int) = L.set P (Word.inverse (Mv.row L (P : Int))) := by
      unfold Mv.mirror; rw [if_pos h, inverse_of hw]; rfl
    rw [hval, decide_eq_true h]
    obtain ⟨b, o, ai, ci, rfl, hci, hcell0, hrw⟩ := ha.cell hget
    have hTu := fun W h1 => impl_InverseWord ai ci (Mv.row L (P : Int)) W h1 (by omega)
    have Ha := Lib.hid ha.grid
    have hWi := fun ra rc r W (hb : Below w.heap.size w W) => impl_withPolygon (some ⟨b, o, none⟩) ra c rc w.heap.size P L r W (Ha.out.below hb) hl hP
    generalize Mv.row L (P : Int) = r at *
    have HH := Lib.hid hH; have HTu := Lib.hid hTu; have Hrw := Lib.hid hrw; have Hcell0 := Lib.hid hcell0; have HWi := Lib.hid hWi
    clear hH hTu hrw hcell0 hWi ha hget hrow hw hval h
    go_enter Try.func16, Try.ntmps16
    go_wp2_with fail
    refine HH.out.mono ?_
    rintro e w1 ⟨rfl, hb1⟩
    have hcell := Hcell0.out w1 hb1
    have Hb1 := Lib.hid hb1; clear hb1
    go_wp2_with fail
    refine (HTu.out w1 (Hrw.out w1 Hb1.out)).mono ?_
    rintro e w2 ⟨ta, tc, rfl, htc, _, hf, hb2⟩
    have Hb2 := Lib.hid (Hb1.out.trans (hb2.mono Hb1.out.size))
    have Hf := Lib.hid ((RowIn.of_fresh hf).mono Hb1.out.size (Nat.le_refl _)); have Htc := Lib.hid htc
    clear hb2 hf htc hcell
    go_wp2_with fail
    refine (HWi.out ta tc _ w2 Hb2.out Hf.out Hb2.out.size Htc.out).mono ?_
    rintro e w3 ⟨v, rfl, hh, hb3⟩
    have Hh := Lib.hid hh; have Hb3 := Lib.hid (Hb2.out.trans (hb3.mono Hb2.out.size))
    clear hh hb3
    go_wp2
    go_ret2
    exact Hh.out.gives Hb3.out
  · rw [decide_eq_false h] at hH
    have hval : Mv.mirror L p = [] := if_neg h
    rw [hval, decide_eq_false h]
    have HH := Lib.hid hH; clear hH hval h
    go_enter Try.func16, Try.ntmps16
    go_wp2_with fail
    refine HH.out.mono ?_
    rintro e w1 ⟨rfl, hb1⟩
    go_wp2
    go_ret2
    exact GivesRows2.none hb1 (Nat.zero_le _)
set_option maxRecDepth 10000 in
set_option maxHeartbeats 1000000 in
theorem spec_l5Copy (a : Option Addr) (c : Nat) (L : List (List Int)) (w : World) (ha : GridAt w a L) (hl : tot L ≤ 1048576) :
    Calls Try.prog 57 #[.slice a L.length c] w fun e w' => ∃ v, e = .returned v ∧ Held w' w.heap.size v L ∧ Below w.heap.size w w' := by
  obtain ⟨i0, hi0, hz0, hz1, hz2⟩ := info_ints_parts
  have Hi0 := Lib.hid hi0; have Hz0 := Lib.hid hz0; have Hz1 := Lib.hid hz1; have Hz2 := Lib.hid hz2
  obtain ⟨j0, hj0, hy0, hy1, hy2⟩ := info_int_parts
  have Hj0 := Lib.hid hj0; have Hy0 := Lib.hid hy0; have Hy1 := Lib.hid hy1; have Hy2 := Lib.hid hy2
  have hln : L.length ≤ 1048576 := by unfold tot at hl; omega
  have HL := Lib.hid hl; have Ha := Lib.hid ha
  have hmd := made_rows (w := w) rfl
  have hbm := (Below.refl w.heap.size w).alloc (Nat.le_refl _) (.cells #[] 42)
  generalize hN : w.heap.size = N at *
  have HN := Lib.hid hN; have Hmd := Lib.hid hmd; have Hbm := Lib.hid hbm
  clear hi0 hz0 hz1 hz2 hj0 hy0 hy1 hy2 hl ha hmd hbm
  go_enter Try.func57, Try.ntmps57
  go_wp2
  go_loopw [3, 4] (fun ov iv wr => ∃ i : Nat, i ≤ L.length ∧ iv = .int .i64 i ∧ Hid (Below N w wr) ∧ (∃ hs : List Hd, hs.map Hd.l = L.take i ∧ wr.ownsRow N 42 1 ov i (hdCells hs) ∧ Hid ((∀ h ∈ hs, RowIn wr N wr.heap.size 3 h.a (intCells h.l)) ∧ Apts hs))) (fun _ iv _ => L.length - (intOf iv).toNat)
  case atStart => exact ⟨0, by omega, rfl, Hbm, [], by simp, by have := Hmd.out; simpa [HN.out] using this, Lib.hid ⟨fun _ h => (by cases h), Apts.nil⟩⟩
  case round =>
    obtain ⟨i, hi, rfl, hb, hs, h1, hown, h3⟩ := hrel
    by_cases hlt : i < L.length
    · obtain ⟨b, o, ai, ci, rfl, hbw, hcell0, hrow⟩ := Ha.out.at hlt
      have hcell : wr.cell? ⟨b, o + i, none⟩ = some (.slice ai L[i].length ci) := by rw [hb.out.cell (by rw [← HN.out]; exact hbw)]; exact hcell0
      have hNw : N ≤ wr.heap.size := by have := hb.out.size; rw [HN.out] at this; exact this
      have Hrow := Lib.hid (hrow.below (by rw [HN.out]; exact hb.out.alloc hNw (.cells #[] 3)))
      have hll : L[i].length ≤ 1048576 := by have := len_le_sumLen hlt; have := HL.out; unfold tot at this; omega
      have Htk : Hid (L.take (i + 1) = L.take i ++ [L[i]]) := Lib.hid (List.take_succ_eq_append_getElem hlt)
      generalize L[i] = r at *
      have hbw2 : b < wr.heap.size := by have := HN.out; omega
      have hcell2 : (wr.alloc (.cells #[] 3)).cell? ⟨b, o + i, none⟩ = some (.slice ai r.length ci) := by rw [((Below.refl wr.heap.size wr).alloc (Nat.le_refl _) (.cells #[] 3)).cell hbw2]; exact hcell
      clear hcell0 hbw hrow
      have Hmk := Lib.hid (own_made (w := wr) rfl)
      have H1 := Lib.hid h1; have Hown := Lib.hid hown
      clear h1
      have hc1 : 0 + r.length ≤ maxLen := by unfold maxLen; omega
      have hc2 : (0 + r.length) * 8 ≤ 140737488355328 := by omega
      have hd1 : i + 1 ≤ maxLen := by unfold maxLen; omega
      have hd2 : (i + 1) * 24 ≤ 140737488355328 := by omega
      obtain ⟨ova, ovc, rfl⟩ := own_len hown
      clear hown
      go_wp2_with (at_builtin; first
        | (refine append_row rfl (.tmp 13) (.tmp 17) 42 rfl wr.heap.size 3 j0 _ 8 Try.underlying42 Hj0.out Hy0.out Hy1.out Hy2.out (by rfl) _ 0 (intCells []) rfl Hmk.out _ r.length _ (intCells r) rfl Hrow.out (intCells_len _) (intCells_one _) hc1 hc2 (by simp) ?_; intro v1 w1 hown1 hg1; rw [Nat.zero_add] at hown1; have hbg := Below.grown ((Below.refl wr.heap.size wr).alloc (Nat.le_refl _) _) hg1 (by simp) (fun k hk => by injection hk with hk; exact Nat.le_of_eq hk); have hfr := own_fresh hown1 (by simp [intCells_len]); obtain ⟨ra, rc, rfl, hrc, hfr⟩ := hfr; have hown2 := own_keep Hown.out hbg (fun k hk => (Hown.out.lt k hk).2); have hN2 : N ≤ w1.heap.size := Nat.le_trans hNw hbg.size; have Hbg := Lib.hid hbg; have Hfr := Lib.hid hfr; have Hrc := Lib.hid hrc; have Hown2 := Lib.hid hown2; clear hown1 hg1 hbg hfr hrc hown2)
        | (refine append_one rfl (.tmp 12) (.tmp 19) 24 rfl N 42 i0 _ 24 Try.underlying24 Hi0.out Hz0.out Hz1.out Hz2.out (by rfl) _ _ _ rfl Hown2.out (by rfl) _ rfl hd1 hd2 hN2 ?_; intro v2 w2 hown3 hg2 _))
      go_roundw
      case rel =>
        have hst := grid_step (c := rc) h3.out.1 h3.out.2 Hown2.out hNw Hfr.out Hbg.out hg2 Hrc.out
        refine ⟨i + 1, by omega, by go_num, Lib.hid (Below.grown ((hb.out.trans (Hbg.out.mono hNw)).alloc hN2 _) hg2 (by simp; omega) (fun k hk => (Hown2.out.lt k hk).1)), hs ++ [⟨ra, rc, r⟩], ?_, ?_, Lib.hid hst⟩
        · rw [List.map_append, H1.out, Htk.out]; rfl
        · rw [← hdCells_snoc]; exact hown3
      case measure => simp [intOf]; omega
    · obtain rfl : i = L.length := by omega
      rw [List.take_of_length_le (Nat.le_refl _)] at h1
      have Hown := Lib.hid hown
      obtain ⟨ova, ovc, rfl⟩ := own_len hown
      clear hown
      go_wp2
      go_ret
      exact ⟨_, rfl, ⟨hs, h1, Hown.out, h3.out.1, h3.out.2⟩, hb.out⟩
end Go.Proofs.Ytlfniodocaiijaa
