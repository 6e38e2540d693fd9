/-
  The walks of the program's and the model's GluingText.
-/
import Derived.Test.YtpgdmbolckogcaaDoorBase
import Derived.Test.YtpgdmbolckogcaaDoorSlice
import Derived.Test.YtpgdmbolckogcaaDoorStrs
import Derived.Test.YtpgdmbolckogcaaDoorJoin
import Derived.Test.YtpgdmbolckogcaaDoorJoinImpl
import Derived.Test.YtpgdmbolckogcaaDoorInts
import Derived.Test.YtpgdmbolckogcaaDoorWord
import Derived.Test.YtpgdmbolckogcaaDoorGrid
import Derived.Test.YtpgdmbolckogcaaDoorGlue
import Derived.Test.YtpgdmbolckogcaaDoorIsWord
import Derived.Test.YtpgdmbolckogcaaDoorIsGluing
import Derived.Test.YtpgdmbolckogcaaDoorOwn
import Derived.Test.YtpgdmbolckogcaaDoorBytes
import Derived.Test.YtpgdmbolckogcaaDoorWordText
namespace Go.Proofs.YtpgdmbolckogcaaDoor
open Go.RowKit

theorem info_str_parts : ∃ i, Tryd.prog.info? 9 = some i ∧ i.zero = some (.string ByteArray.empty) ∧ i.size = 1 ∧ i.bytes = 16 := by
  obtain ⟨i, h1, h2, h3, h4⟩ := info_parts info_str
  exact ⟨i, h1, h2, h3, h4⟩
theorem strCells_snoc (l : List ByteArray) (s : ByteArray) : strCells l ++ [.string s] = strCells (l ++ [s]) := by simp [strCells]
theorem strCells_len (l : List ByteArray) : (strCells l).length = l.length := by simp [strCells]
theorem made_strs {N : Nat} {w : World} (h : w.heap.size = N) : (w.alloc (.cells #[] 9)).ownsRow N 9 1 (.slice (some ⟨w.heap.size, 0, none⟩) 0 0) 0 (strCells []) :=
  World.ownsRow_made (base := N) (e := 9) (size := 1) w #[] 0 (by omega) (by unfold maxLen; omega) (by rfl)

namespace Glue
def texts (L : List (List Int)) : List ByteArray := L.map txt
theorem texts_len (L : List (List Int)) : (texts L).length = L.length := by simp [texts]
theorem texts_total (L : List (List Int)) : total (texts L) = sumLen L := by
  unfold total texts sumLen
  rw [List.map_map]
  congr 1
  apply List.map_congr_left
  intro r _
  exact txt_size r
theorem texts_snoc {L : List (List Int)} {i : Nat} {r : List Int} (h : L[i]? = some r) : texts (L.take (i + 1)) = texts (L.take i) ++ [txt r] := by
  obtain ⟨h1, rfl⟩ := List.getElem?_eq_some_iff.1 h
  unfold texts
  rw [List.take_succ_eq_append_getElem h1, List.map_append]; rfl
theorem said_txt {r : List Int} (h : RowOk r) : (⟨(Word.said r).toArray⟩ : ByteArray) = txt r := by
  unfold txt
  rw [said_text h.2 (fun e => h.1 (List.eq_nil_of_length_eq_zero e))]
/-- GluingText's answer. -/
def said (L : List (List Int)) : ByteArray := if IsG L then ⟨(Lib.join (Join.texts (texts L)) [32]).toArray⟩ else ⟨#[]⟩
end Glue

set_option maxRecDepth 10000 in
set_option maxHeartbeats 2000000 in
theorem spec_GluingText (a : Option Addr) (c : Nat) (L : List (List Int)) (w : World) (ha : GridAt w a L) (hl : tot L ≤ 1048576) :
    Calls Tryd.prog 39 #[.slice a L.length c] w fun e w' => e = .returned (.string (Glue.said L)) ∧ Below w.heap.size w w' := by
  have hG := spec_IsGluing a c L w ha hl
  generalize hv : Glue.said L = V
  unfold Glue.said at hv
  have Ha := Lib.hid ha
  by_cases hg : Glue.IsG L
  · rw [if_pos hg] at hv
    rw [decide_eq_true hg] at hG
    have hl4 := hg.2.1
    have htt := Glue.texts_total L
    have hsum := hg.2.2.2.1
    have hln := Glue.texts_len L
    obtain ⟨i0, hi0, hz0, hz1, hz2⟩ := info_str_parts
    have Hi0 := Lib.hid hi0; have Hz0 := Lib.hid hz0; have Hz1 := Lib.hid hz1; have Hz2 := Lib.hid hz2
    have hJ := fun ad cc W (h : RowAt W ad (strCells (Glue.texts L))) => spec_Join ad cc (Glue.texts L) ⟨#[32]⟩ W h (by omega) (by show (1 : Nat) ≤ _; omega)
    rw [hln, show (⟨#[32]⟩ : ByteArray).data.toList = [32] from rfl, hv] at hJ
    have HG := Lib.hid hG; have Hg := Lib.hid hg; have HJ := Lib.hid hJ
    clear hG hg ha hv hJ hi0 hz0 hz1 hz2 htt hln hsum
    generalize hN : w.heap.size = N at *
    have HN := Lib.hid hN
    go_enter Tryd.func39, Tryd.ntmps39
    go_wp2_with fail
    refine HG.out.mono ?_
    rintro e w1 ⟨rfl, hb1⟩
    have hmd := made_strs (w := w1) rfl
    have hb1' := hb1.alloc (by have := hb1.size; rw [HN.out] at this; exact this) (.cells #[] 9)
    have hN1 : N ≤ w1.heap.size := by have := hb1.size; rw [HN.out] at this; exact this
    have Hmd := Lib.hid hmd; have Hb1 := Lib.hid hb1'; have HN1 := Lib.hid hN1
    clear hmd hb1 hb1' hN1
    go_wp2
    go_loopw [3, 4] (fun ov iv wr => ∃ i : Nat, i ≤ L.length ∧ iv = .int .i64 i ∧ Hid (Below N w wr) ∧ wr.ownsRow N 9 1 ov i (strCells (Glue.texts (L.take i)))) (fun _ iv _ => L.length - (intOf iv).toNat)
    case atStart => exact ⟨0, by omega, rfl, Lib.hid Hb1.out, own_mono Hmd.out HN1.out⟩
    case round =>
      obtain ⟨i, hi, rfl, hb, hown⟩ := hrel
      by_cases hlt : i < L.length
      · obtain ⟨r, hr⟩ := get_some hlt
        obtain ⟨b, o, ai, ci, rfl, hbw, hcell, hrow⟩ := (Ha.out.below (by rw [HN.out]; exact hb.out)).get hr
        have hok := Hg.out.2.2.1 r (get_mem hr)
        have hT := spec_l2Text ai ci r wr hrow hok.2
        have hst := Glue.texts_snoc hr
        have HT := Lib.hid hT; have Hst := Lib.hid hst
        generalize txt r = s at *
        generalize hX : Glue.texts (L.take i) = X at *
        generalize hY : Glue.texts (L.take (i + 1)) = Y at *
        have HY := Lib.hid hY
        obtain ⟨av, cv, rfl⟩ := own_len hown
        clear hX hY hst hT hok hr hrow
        go_wp2_with fail
        refine HT.out.mono ?_
        rintro e w2 ⟨rfl, hb2⟩
        have hNle : N ≤ w2.heap.size := by have := hb.out.size; have := hb2.size; rw [HN.out] at *; omega
        have hown2 := own_keep hown hb2 (fun k hk => (hown.lt k hk).2)
        have hbw2 := hb.out.trans (hb2.mono (by have := hb.out.size; rw [HN.out] at this; exact this))
        have hm1 : i + 1 ≤ maxLen := by unfold maxLen; omega
        have hm2 : (i + 1) * 16 ≤ 140737488355328 := by omega
        have Hbw2 := Lib.hid hbw2
        clear hb2 hbw2 hown hcell
        go_wp2_with (at_builtin; refine append_one rfl (.tmp 15) (.tmp 21) 40 rfl N 9 i0 _ 16 Tryd.underlying40 Hi0.out Hz0.out Hz1.out Hz2.out (by rfl) _ _ _ rfl hown2 (by rfl) _ rfl hm1 hm2 hNle ?_; intro v1 w1 hown1 hg1 _)
        go_roundw
        case rel =>
          refine ⟨i + 1, by omega, by go_num, Lib.hid (Below.grown (Hbw2.out.alloc hNle _) hg1 (by simp; omega) (fun k hk => (hown2.lt k hk).1)), ?_⟩
          rw [HY.out, Hst.out, ← strCells_snoc]; exact hown1
        case measure => simp [intOf]; omega
      · obtain rfl : i = L.length := by omega
        rw [List.take_of_length_le (Nat.le_refl _)] at hown
        obtain ⟨av, cv, rfl, hrow⟩ := own_row hown (by rw [strCells_len, Glue.texts_len])
        have Hrow := Lib.hid hrow; have Hown := Lib.hid hown
        clear hrow hown
        go_wp2_with fail
        refine (HJ.out av cv wr Hrow.out).mono ?_
        rintro e w2 ⟨rfl, hb2⟩
        go_wp2
        go_ret
        exact ⟨rfl, hb.out.trans (hb2.mono (by have := hb.out.size; rw [HN.out] at this; exact this))⟩
  · rw [if_neg hg] at hv
    rw [decide_eq_false hg] at hG
    have HG := Lib.hid hG; have Hv := Lib.hid hv
    clear hG hg ha hv
    go_enter Tryd.func39, Tryd.ntmps39
    go_wp2_with fail
    refine HG.out.mono ?_
    rintro e w1 ⟨rfl, hb1⟩
    go_wp2
    go_ret
    exact ⟨by rw [← Hv.out]; rfl, hb1⟩

set_option maxRecDepth 10000 in
set_option maxHeartbeats 2000000 in
theorem impl_GluingText (a : Option Addr) (c : Nat) (L : List (List Int)) (w : World) (ha : GridAt w a L) (hl : tot L ≤ 1048576) :
    Calls Tryd.prog 38 #[.slice a L.length c] w fun e w' => e = .returned (.string (Glue.said L)) ∧ Below w.heap.size w w' := by
  have hG := impl_IsGluing a c L w ha hl
  generalize hv : Glue.said L = V
  unfold Glue.said at hv
  have Ha := Lib.hid ha
  by_cases hg : Glue.IsG L
  · rw [if_pos hg] at hv
    rw [decide_eq_true hg] at hG
    have hl4 := hg.2.1
    have hl1 := hg.1
    have htt := Glue.texts_total L
    have hsum := hg.2.2.2.1
    have hln := Glue.texts_len L
    obtain ⟨i0, hi0, hz0, hz1, hz2⟩ := info_str_parts
    have Hi0 := Lib.hid hi0; have Hz0 := Lib.hid hz0; have Hz1 := Lib.hid hz1; have Hz2 := Lib.hid hz2
    have hJ := fun b o cc W (h : RowAt W (some ⟨b, o, none⟩) (strCells (Glue.texts L))) hc => impl_Join b o cc (Glue.texts L) ⟨#[32]⟩ W h (by omega) (by show (1 : Nat) ≤ _; omega) hc
    rw [hln, show (⟨#[32]⟩ : ByteArray).data.toList = [32] from rfl, hv] at hJ
    have HG := Lib.hid hG; have Hg := Lib.hid hg; have HJ := Lib.hid hJ
    clear hG hg ha hv hJ hi0 hz0 hz1 hz2 htt hln hsum
    generalize hN : w.heap.size = N at *
    have HN := Lib.hid hN
    go_enter Tryd.func38, Tryd.ntmps38
    go_wp2_with fail
    refine HG.out.mono ?_
    rintro e w1 ⟨rfl, hb1⟩
    have Hb1 := Lib.hid hb1
    clear hb1
    go_wp2
    go_loopw [3, 5, 11] (fun ov _ iv wr => ∃ i : Nat, i ≤ L.length ∧ iv = .int .i64 i ∧ Hid (Below N w wr) ∧ wr.ownsRow N 9 1 ov i (strCells (Glue.texts (L.take i)))) (fun _ _ iv _ => L.length - (intOf iv).toNat)
    case atStart => exact ⟨0, by omega, rfl, Lib.hid Hb1.out, World.ownsRow_nil _ _ _ _⟩
    case round =>
      obtain ⟨i, hi, rfl, hb, hown⟩ := hrel
      by_cases hlt : i < L.length
      · obtain ⟨r, hr⟩ := get_some hlt
        obtain ⟨b, o, ai, ci, rfl, hbw, hcell, hrow⟩ := (Ha.out.below (by rw [HN.out]; exact hb.out)).get hr
        have hok := Hg.out.2.2.1 r (get_mem hr)
        have hT := impl_WordText ai ci r wr hrow (Nat.le_trans hok.2.2 (by decide))
        rw [Glue.said_txt hok] at hT
        have hst := Glue.texts_snoc hr
        have HT := Lib.hid hT; have Hst := Lib.hid hst
        generalize txt r = s at *
        generalize hX : Glue.texts (L.take i) = X at *
        generalize hY : Glue.texts (L.take (i + 1)) = Y at *
        have HY := Lib.hid hY
        obtain ⟨av, cv, rfl⟩ := own_len hown
        clear hX hY hst hT hok hr hrow
        go_wp2_with fail
        refine HT.out.mono ?_
        rintro e w2 ⟨rfl, hb2⟩
        have hNle : N ≤ w2.heap.size := by have := hb.out.size; have := hb2.size; rw [HN.out] at *; omega
        have hown2 := own_keep hown hb2 (fun k hk => (hown.lt k hk).2)
        have hbw2 := hb.out.trans (hb2.mono (by have := hb.out.size; rw [HN.out] at this; exact this))
        have hm1 : i + 1 ≤ maxLen := by unfold maxLen; omega
        have hm2 : (i + 1) * 16 ≤ 140737488355328 := by omega
        have Hbw2 := Lib.hid hbw2
        clear hb2 hbw2 hown hcell
        go_wp2_with (at_builtin; refine append_one rfl (.tmp 15) (.tmp 18) 40 rfl N 9 i0 _ 16 Tryd.underlying40 Hi0.out Hz0.out Hz1.out Hz2.out (by rfl) _ _ _ rfl hown2 (by rfl) _ rfl hm1 hm2 hNle ?_; intro v1 w1 hown1 hg1 _)
        go_roundw
        case rel =>
          refine ⟨i + 1, by omega, by go_num, Lib.hid (Below.grown (Hbw2.out.alloc hNle _) hg1 (by simp; omega) (fun k hk => (hown2.lt k hk).1)), ?_⟩
          rw [HY.out, Hst.out, ← strCells_snoc]; exact hown1
        case measure => simp [intOf]; omega
      · obtain rfl : i = L.length := by omega
        rw [List.take_of_length_le (Nat.le_refl _)] at hown
        obtain ⟨g, cap, rfl, hcp, _⟩ := own_form hown (by omega)
        obtain ⟨av, cv, e, hrow⟩ := own_row hown (by rw [strCells_len, Glue.texts_len])
        cases e
        have Hrow := Lib.hid hrow; have Hown := Lib.hid hown
        clear hrow hown
        go_wp2_with fail
        refine (HJ.out g 0 cap wr Hrow.out hcp).mono ?_
        rintro e w2 ⟨rfl, hb2⟩
        go_wp2
        go_ret
        exact ⟨rfl, hb.out.trans (hb2.mono (by have := hb.out.size; rw [HN.out] at this; exact this))⟩
  · rw [if_neg hg] at hv
    rw [decide_eq_false hg] at hG
    have HG := Lib.hid hG; have Hv := Lib.hid hv
    clear hG hg ha hv
    go_enter Tryd.func38, Tryd.ntmps38
    go_wp2_with fail
    refine HG.out.mono ?_
    rintro e w1 ⟨rfl, hb1⟩
    go_wp2
    go_ret
    exact ⟨by rw [← Hv.out]; rfl, hb1⟩
end Go.Proofs.YtpgdmbolckogcaaDoor
