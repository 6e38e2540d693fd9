/-
  The walks of the model's TurnPolygon and MirrorPolygon.
-/
import Derived.Test.YtlfniodocaiijaaBase
import Derived.Test.YtlfniodocaiijaaSlice
import Derived.Test.YtlfniodocaiijaaIntRow
import Derived.Test.YtlfniodocaiijaaInts
import Derived.Test.YtlfniodocaiijaaOwn
import Derived.Test.YtlfniodocaiijaaGrid
import Derived.Test.YtlfniodocaiijaaGridWalk
import Derived.Test.YtlfniodocaiijaaGridRows
import Derived.Test.YtlfniodocaiijaaWord
import Derived.Test.YtlfniodocaiijaaGlue
import Derived.Test.YtlfniodocaiijaaIsWord
import Derived.Test.YtlfniodocaiijaaIsGluing
import Derived.Test.YtlfniodocaiijaaAppend
import Derived.Test.YtlfniodocaiijaaTurn
import Derived.Test.YtlfniodocaiijaaInvert
import Derived.Test.YtlfniodocaiijaaMove
import Derived.Test.YtlfniodocaiijaaMoveA
import Derived.Test.YtlfniodocaiijaaMoveB
namespace Go.Proofs.Ytlfniodocaiijaa
open Go.RowKit

set_option maxRecDepth 10000 in
set_option maxHeartbeats 1000000 in
theorem spec_l5Right (v : Value) (L : List (List Int)) (lo : Nat) (w : World) (hh : Held w lo v L) (hl : tot L ≤ 1048576) (hlo : lo ≤ w.heap.size) :
    Calls Try.prog 58 #[v] w fun e w' => ∃ v', e = .returned (.tuple #[v', .bool (decide (Glue.IsG L))]) ∧ Held w' lo v' (if Glue.IsG L then L else []) ∧ Below w.heap.size w w' := by
  have Hh := Lib.hid hh
  obtain ⟨a, c, rfl, _, _, hgr⟩ := hh.done
  have hG := spec_IsGluing a c L w hgr.grid hl
  by_cases hg : Glue.IsG L
  · rw [decide_eq_true hg] at hG
    simp only [decide_eq_true hg, if_pos hg]
    have HG := Lib.hid hG
    clear hG hgr hg hh
    go_enter Try.func58, Try.ntmps58
    go_wp2_with fail
    refine HG.out.mono ?_
    rintro e w1 ⟨rfl, hb1⟩
    go_wp2
    go_ret2
    exact ⟨_, rfl, Hh.out.below hb1, hb1⟩
  · rw [decide_eq_false hg] at hG
    simp only [decide_eq_false hg, if_neg hg]
    have HG := Lib.hid hG
    clear hG hgr hg hh
    go_enter Try.func58, Try.ntmps58
    go_wp2_with fail
    refine HG.out.mono ?_
    rintro e w1 ⟨rfl, hb1⟩
    go_wp2
    go_ret2
    exact ⟨_, rfl, ⟨[], rfl, own_mono (made_rows rfl) (Nat.le_trans hlo hb1.size), fun _ h => (by cases h), Apts.nil⟩, hb1.alloc hb1.size _⟩
set_option maxRecDepth 10000 in
set_option maxHeartbeats 1000000 in
theorem spec_l5With (a ra : Option Addr) (c rc lo p : Nat) (L : List (List Int)) (r : List Int) (w : World) (ha : GridAt w a L) (hl : tot L ≤ 1048576) (hp : p < L.length) (hl2 : tot (L.set p r) ≤ 1048576) (hr : RowIn w lo w.heap.size 3 ra (intCells r)) (hlo : lo ≤ w.heap.size) (hrc : r.length ≤ rc) :
    Calls Try.prog 68 #[.slice a L.length c, .int .i64 (p : Int), .slice ra r.length rc] w fun e w' => ∃ v', e = .returned (.tuple #[v', .bool (decide (Glue.IsG (L.set p r)))]) ∧ Held w' lo v' (if Glue.IsG (L.set p r) then L.set p r else []) ∧ Below w.heap.size w w' := by
  have Hc := Lib.hid (spec_l5Copy a c L w ha hl)
  have hR := fun v W (h : Held W lo v (L.set p r)) h2 => spec_l5Right v (L.set p r) lo W h hl2 h2
  generalize decide (Glue.IsG (L.set p r)) = d at *
  generalize (if Glue.IsG (L.set p r) then L.set p r else []) = M at *
  have HR := Lib.hid hR; clear hR
  obtain ⟨q, hq⟩ := get_some hp
  have Hq := Lib.hid hq; have Hr := Lib.hid hr; have Hlo := Lib.hid hlo; have Hrc := Lib.hid hrc
  have hpi : (p : Int) < (L.length : Int) := by omega
  have h0 : 0 < L.length := by omega
  clear ha hr hlo hq hrc hl2
  go_enter Try.func68, Try.ntmps68
  go_wp2_with fail
  refine Hc.out.mono ?_
  rintro e w1 ⟨v, rfl, hh, hb⟩
  obtain ⟨g, cap, rfl, hg1, hg2, _, _⟩ := hh.form h0
  obtain ⟨ai, ci, hcell, _, _⟩ := hh.cell Hq.out
  have hfz := hh.frozen p
  have hput := hh.put hp (Hr.out.below hb) Hlo.out Hrc.out
  have hsb := hb.setCell (p := ⟨g, p, none⟩) hg1 (.slice ra r.length rc)
  have Hput := Lib.hid hput; have Hsb := Lib.hid hsb
  clear hh hb hput hsb
  go_wp2_with fail
  refine (HR.out _ _ Hput.out (Nat.le_trans Hlo.out Hsb.out.size)).mono ?_
  rintro e w2 ⟨v2, rfl, hh2, hb2⟩
  have Hh2 := Lib.hid hh2; have Hb2 := Lib.hid (Hsb.out.trans (hb2.mono Hsb.out.size))
  clear hh2 hb2
  go_wp2
  go_ret2
  exact ⟨_, rfl, Hh2.out, Hb2.out⟩
set_option maxRecDepth 10000 in
set_option maxHeartbeats 1000000 in
theorem spec_TurnPolygon (a : Option Addr) (c : Nat) (L : List (List Int)) (p k : Int) (w : World) (ha : GridC w a L) (hl : tot L ≤ 1048576) (_hp0 : -9223372036854775808 ≤ p) (_hp1 : p ≤ 9223372036854775807) (hk0 : -9223372036854775808 ≤ k) (hk1 : k ≤ 9223372036854775807) :
    Calls Try.prog 14 #[.slice a L.length c, .int .i64 p, .int .i64 k] w fun e w' => GivesRows2 w (Mv.turn L p k) (decide (Mv.Has L p)) e w' := by
  have hG := spec_IsGluing a c L w ha.grid hl
  have hln : L.length ≤ 1048576 := by unfold tot at hl; omega
  by_cases hg : Glue.IsG L
  · rw [decide_eq_true hg] at hG
    have hI := fun W => spec_l1In p 0 ((L.length : Int) - 1) W
    by_cases hr : 0 ≤ p ∧ p ≤ (L.length : Int) - 1
    · rw [decide_eq_true hr] at hI
      have h : Mv.Has L p := ⟨hg, hr.1, by omega⟩
      obtain ⟨P, rfl⟩ : ∃ P : Nat, p = (P : Int) := ⟨p.toNat, by omega⟩
      have hP : P < L.length := by omega
      have hPi : (P : Int) < (L.length : Int) := by omega
      have hget : L[P]? = some (Mv.row L (P : Int)) := by have := h.get; simpa using this
      have hrow : (Mv.row L (P : Int)).length ≤ 20 := h.tot
      have hw : Word.IsW (Mv.row L (P : Int)) := h.ok.2
      have hset : Glue.IsG (L.set P (Word.turn (Mv.row L (P : Int)) k)) := by have := Mv.turn_isG h k; simpa using this
      have hval : Mv.turn L (P : Int) k = L.set P (Word.turn (Mv.row L (P : Int)) k) := by unfold Mv.turn; rw [if_pos h]; rfl
      rw [hval, decide_eq_true h]
      obtain ⟨b, o, ai, ci, rfl, hci, hcell0, hrw⟩ := ha.cell hget
      have hTu := fun W h1 => spec_l2Turn ai ci (Mv.row L (P : Int)) k W h1 (by omega) hci hk0 hk1
      have Ha := Lib.hid ha.grid
      have hWi := fun ra rc W (hb : Below w.heap.size w W) => spec_l5With (some ⟨b, o, none⟩) ra c rc w.heap.size P L (Word.turn (Mv.row L (P : Int)) k) W (Ha.out.below hb) hl hP (Nat.le_trans (Mv.tot_of hset) (by decide))
      rw [decide_eq_true hset, if_pos hset] at hWi
      generalize Word.turn (Mv.row L (P : Int)) k = nr at *
      generalize Mv.row L (P : Int) = r at *
      have HG := Lib.hid hG; have HI := Lib.hid hI; have HTu := Lib.hid hTu; have Hrw := Lib.hid hrw; have Hcell0 := Lib.hid hcell0; have HWi := Lib.hid hWi
      clear hG hI hTu hrw hcell0 hWi ha hget hrow hw hval h hset hg hr
      go_enter Try.func14, Try.ntmps14
      go_wp2_with fail
      refine HG.out.mono ?_
      rintro e w1 ⟨rfl, hb1⟩
      have hcell := Hcell0.out w1 hb1
      have Hb1 := Lib.hid hb1; clear hb1
      go_wp2_with fail
      refine (HI.out _).mono ?_
      rintro e w9 ⟨rfl, hw9⟩
      rw [hw9]; clear hw9
      go_wp2_with fail
      refine (HTu.out w1 (Hrw.out w1 Hb1.out)).mono ?_
      rintro e w2 ⟨ta, tc, rfl, htc, _, hf, hb2⟩
      have Hb2 := Lib.hid (Hb1.out.trans (hb2.mono Hb1.out.size))
      have Hf := Lib.hid ((RowIn.of_fresh hf).mono Hb1.out.size (Nat.le_refl _)); have Htc := Lib.hid htc
      clear hb2 hf htc hcell
      go_wp2_with fail
      refine (HWi.out ta tc w2 Hb2.out Hf.out Hb2.out.size Htc.out).mono ?_
      rintro e w3 ⟨v, rfl, hh, hb3⟩
      have Hh := Lib.hid hh; have Hb3 := Lib.hid (Hb2.out.trans (hb3.mono Hb2.out.size))
      clear hh hb3
      go_wp2
      go_ret2
      exact Hh.out.gives Hb3.out
    · rw [decide_eq_false hr] at hI
      have hn : ¬ Mv.Has L p := fun h => hr ⟨h.2.1, by have := h.2.2; omega⟩
      have hval : Mv.turn L p k = [] := if_neg hn
      rw [hval, decide_eq_false hn]
      have HG := Lib.hid hG; have HI := Lib.hid hI
      clear hG hI hval hn hr hg
      go_enter Try.func14, Try.ntmps14
      go_wp2_with fail
      refine HG.out.mono ?_
      rintro e w1 ⟨rfl, hb1⟩
      go_wp2_with fail
      refine (HI.out _).mono ?_
      rintro e w9 ⟨rfl, hw9⟩
      rw [hw9]; clear hw9
      go_wp2
      go_ret2
      exact GivesRows2.none (hb1.alloc hb1.size _) (Nat.zero_le _)
  · rw [decide_eq_false hg] at hG
    have hn : ¬ Mv.Has L p := fun h => hg h.1
    have hval : Mv.turn L p k = [] := if_neg hn
    rw [hval, decide_eq_false hn]
    have HG := Lib.hid hG
    clear hG hval hn hg
    go_enter Try.func14, Try.ntmps14
    go_wp2_with fail
    refine HG.out.mono ?_
    rintro e w1 ⟨rfl, hb1⟩
    go_wp2
    go_ret2
    exact GivesRows2.none (hb1.alloc hb1.size _) (Nat.zero_le _)
set_option maxRecDepth 10000 in
set_option maxHeartbeats 1000000 in
theorem spec_MirrorPolygon (a : Option Addr) (c : Nat) (L : List (List Int)) (p : Int) (w : World) (ha : GridC w a L) (hl : tot L ≤ 1048576) (_hp0 : -9223372036854775808 ≤ p) (_hp1 : p ≤ 9223372036854775807) :
    Calls Try.prog 17 #[.slice a L.length c, .int .i64 p] w fun e w' => GivesRows2 w (Mv.mirror L p) (decide (Mv.Has L p)) e w' := by
  have hG := spec_IsGluing a c L w ha.grid hl
  have hln : L.length ≤ 1048576 := by unfold tot at hl; omega
  by_cases hg : Glue.IsG L
  · rw [decide_eq_true hg] at hG
    have hI := fun W => spec_l1In p 0 ((L.length : Int) - 1) W
    by_cases hr : 0 ≤ p ∧ p ≤ (L.length : Int) - 1
    · rw [decide_eq_true hr] at hI
      have h : Mv.Has L p := ⟨hg, hr.1, by omega⟩
      obtain ⟨P, rfl⟩ : ∃ P : Nat, p = (P : Int) := ⟨p.toNat, by omega⟩
      have hP : P < L.length := by omega
      have hPi : (P : Int) < (L.length : Int) := by omega
      have hget : L[P]? = some (Mv.row L (P : Int)) := by have := h.get; simpa using this
      have hrow : (Mv.row L (P : Int)).length ≤ 20 := h.tot
      have hw : Word.IsW (Mv.row L (P : Int)) := h.ok.2
      have hset : Glue.IsG (L.set P (Word.inv (Mv.row L (P : Int)))) := by have := Mv.mirror_isG h; simpa using this
      have hval : Mv.mirror L (P : Int) = L.set P (Word.inv (Mv.row L (P : Int))) := by unfold Mv.mirror; rw [if_pos h]; rfl
      rw [hval, decide_eq_true h]
      obtain ⟨b, o, ai, ci, rfl, hci, hcell0, hrw⟩ := ha.cell hget
      have hTu := fun W h1 => spec_l2Inverse ai ci (Mv.row L (P : Int)) W h1 (by omega) hw.1
      have Ha := Lib.hid ha.grid
      have hWi := fun ra rc W (hb : Below w.heap.size w W) => spec_l5With (some ⟨b, o, none⟩) ra c rc w.heap.size P L (Word.inv (Mv.row L (P : Int))) W (Ha.out.below hb) hl hP (Nat.le_trans (Mv.tot_of hset) (by decide))
      rw [decide_eq_true hset, if_pos hset] at hWi
      generalize Word.inv (Mv.row L (P : Int)) = nr at *
      generalize Mv.row L (P : Int) = r at *
      have HG := Lib.hid hG; have HI := Lib.hid hI; have HTu := Lib.hid hTu; have Hrw := Lib.hid hrw; have Hcell0 := Lib.hid hcell0; have HWi := Lib.hid hWi
      clear hG hI hTu hrw hcell0 hWi ha hget hrow hw hval h hset hg hr
      go_enter Try.func17, Try.ntmps17
      go_wp2_with fail
      refine HG.out.mono ?_
      rintro e w1 ⟨rfl, hb1⟩
      have hcell := Hcell0.out w1 hb1
      have Hb1 := Lib.hid hb1; clear hb1
      go_wp2_with fail
      refine (HI.out _).mono ?_
      rintro e w9 ⟨rfl, hw9⟩
      rw [hw9]; clear hw9
      go_wp2_with fail
      refine (HTu.out w1 (Hrw.out w1 Hb1.out)).mono ?_
      rintro e w2 ⟨ta, tc, rfl, htc, _, hf, hb2⟩
      have Hb2 := Lib.hid (Hb1.out.trans (hb2.mono Hb1.out.size))
      have Hf := Lib.hid ((RowIn.of_fresh hf).mono Hb1.out.size (Nat.le_refl _)); have Htc := Lib.hid htc
      clear hb2 hf htc hcell
      go_wp2_with fail
      refine (HWi.out ta tc w2 Hb2.out Hf.out Hb2.out.size Htc.out).mono ?_
      rintro e w3 ⟨v, rfl, hh, hb3⟩
      have Hh := Lib.hid hh; have Hb3 := Lib.hid (Hb2.out.trans (hb3.mono Hb2.out.size))
      clear hh hb3
      go_wp2
      go_ret2
      exact Hh.out.gives Hb3.out
    · rw [decide_eq_false hr] at hI
      have hn : ¬ Mv.Has L p := fun h => hr ⟨h.2.1, by have := h.2.2; omega⟩
      have hval : Mv.mirror L p = [] := if_neg hn
      rw [hval, decide_eq_false hn]
      have HG := Lib.hid hG; have HI := Lib.hid hI
      clear hG hI hval hn hr hg
      go_enter Try.func17, Try.ntmps17
      go_wp2_with fail
      refine HG.out.mono ?_
      rintro e w1 ⟨rfl, hb1⟩
      go_wp2_with fail
      refine (HI.out _).mono ?_
      rintro e w9 ⟨rfl, hw9⟩
      rw [hw9]; clear hw9
      go_wp2
      go_ret2
      exact GivesRows2.none (hb1.alloc hb1.size _) (Nat.zero_le _)
  · rw [decide_eq_false hg] at hG
    have hn : ¬ Mv.Has L p := fun h => hg h.1
    have hval : Mv.mirror L p = [] := if_neg hn
    rw [hval, decide_eq_false hn]
    have HG := Lib.hid hG
    clear hG hval hn hg
    go_enter Try.func17, Try.ntmps17
    go_wp2_with fail
    refine HG.out.mono ?_
    rintro e w1 ⟨rfl, hb1⟩
    go_wp2
    go_ret2
    exact GivesRows2.none (hb1.alloc hb1.size _) (Nat.zero_le _)
end Go.Proofs.Ytlfniodocaiijaa
