/-
  The walks of the program's and the model's GraphText.
-/
import Derived.Test.YtpgdmbolckogcaaDoorBase
import Derived.Test.YtpgdmbolckogcaaDoorSlice
import Derived.Test.YtpgdmbolckogcaaDoorStrs
import Derived.Test.YtpgdmbolckogcaaDoorJoin
import Derived.Test.YtpgdmbolckogcaaDoorJoinImpl
import Derived.Test.YtpgdmbolckogcaaDoorInts
import Derived.Test.YtpgdmbolckogcaaDoorOwn
import Derived.Test.YtpgdmbolckogcaaDoorGrid
import Derived.Test.YtpgdmbolckogcaaDoorGlueText
import Derived.Test.YtpgdmbolckogcaaDoorFmt
import Derived.Test.YtpgdmbolckogcaaDoorStepRow
import Derived.Test.YtpgdmbolckogcaaDoorGraph
import Derived.Test.YtpgdmbolckogcaaDoorGraphA
import Derived.Test.YtpgdmbolckogcaaDoorGraphA2
import Derived.Test.YtpgdmbolckogcaaDoorShelfItoaS
import Derived.Deep.RegionHeld3
import Derived.Deep.QuietTactic
import Derived.BigQuiet
namespace Go.Proofs.YtpgdmbolckogcaaDoor
open Go.RowKit

namespace Gr
/-- A digit. -/
def dg (x : Nat) : ByteArray := ⟨#[UInt8.ofNat (48 + x)]⟩
theorem dg_size (x : Nat) : (dg x).size = 1 := rfl
theorem dg_itoa {x : Nat} (h : x < 7) : (⟨(Lib.itoa ((x : Nat) : Int)).toArray⟩ : ByteArray) = dg x := by
  rcases (by omega : x = 0 ∨ x = 1 ∨ x = 2 ∨ x = 3 ∨ x = 4 ∨ x = 5 ∨ x = 6) with rfl | rfl | rfl | rfl | rfl | rfl | rfl <;> decide +kernel
theorem dg_dec {x : Nat} (h : x < 7) : (⟨(Lib.decDigits x).toArray⟩ : ByteArray) = dg x := by
  rcases (by omega : x = 0 ∨ x = 1 ∨ x = 2 ∨ x = 3 ∨ x = 4 ∨ x = 5 ∨ x = 6) with rfl | rfl | rfl | rfl | rfl | rfl | rfl <;> decide +kernel
def tx (e : List Int) : ByteArray := dg (e.getD 0 0).toNat ++ dg (e.getD 1 0).toNat
theorem tx_two (x y : Nat) : tx [((x : Nat) : Int), ((y : Nat) : Int)] = dg x ++ dg y := rfl
theorem tx_size (e : List Int) : (tx e).size = 2 := by unfold tx; rw [ByteArray.size_append]; rfl
def txs (L : List (List Int)) : List ByteArray := L.map tx
theorem txs_len (L : List (List Int)) : (txs L).length = L.length := by simp [txs]
theorem txs_total (L : List (List Int)) : total (txs L) = 2 * L.length := by
  unfold total txs
  rw [List.map_map]
  have : (L.map (ByteArray.size ∘ tx)) = L.map fun _ => 2 := List.map_congr_left fun e _ => tx_size e
  rw [this, List.map_const', List.sum_replicate_nat]; omega
theorem txs_snoc {L : List (List Int)} {i : Nat} {r : List Int} (h : L[i]? = some r) : txs (L.take (i + 1)) = txs (L.take i) ++ [tx r] := by
  obtain ⟨h1, rfl⟩ := List.getElem?_eq_some_iff.1 h
  unfold txs
  rw [List.take_succ_eq_append_getElem h1, List.map_append]; rfl
/-- GraphText's answer. -/
def said (L : List (List Int)) : ByteArray := if IsG L then ⟨(Lib.join (Join.texts (txs L)) [32]).toArray⟩ else ⟨#[]⟩
end Gr
theorem below_on4 {A B C : Prop} {w W W' : World} (h : A ∧ B ∧ C ∧ Below w.heap.size w W) (hb : Below W.heap.size W W') : Below w.heap.size w W' := h.2.2.2.trans (hb.mono h.2.2.2.size)
theorem below_on3 {A B : Prop} {w W W' : World} (h : A ∧ B ∧ Below w.heap.size w W) (hb : Below W.heap.size W W') : Below w.heap.size w W' := h.2.2.trans (hb.mono h.2.2.size)

set_option maxRecDepth 10000 in
theorem impl_FormatDigit (x : Nat) (hx : x < 7) (w : World) : Calls Tryd.prog 46 #[.int .i64 (x : Int)] w fun e w' => e = .returned (.string (Gr.dg x)) ∧ w' = w := by
  have hc := Tryd.strconv_Itoa_small x (by omega) w
  rw [Gr.dg_dec hx] at hc
  have Hc := Lib.hid hc; clear hc
  go_enter Tryd.func46, Tryd.ntmps46
  go_wp2_with fail
  refine Hc.out.mono ?_
  rintro e w1 ⟨rfl, rfl⟩
  go_wp2
  go_ret
  exact ⟨rfl, rfl⟩
theorem spec_FormatDigit (x : Nat) (hx : x < 7) (w : World) : Calls Tryd.prog 42 #[.int .i64 (x : Int)] w fun e w' => e = .returned (.string (Gr.dg x)) ∧ Below w.heap.size w w' := by
  have hc := spec_FormatInt (x : Int) w (by omega) (by omega)
  rw [Gr.dg_itoa hx] at hc
  exact hc

set_option maxRecDepth 10000 in
set_option maxHeartbeats 4000000 in
theorem impl_GraphText (a : Option Addr) (c : Nat) (L : List (List Int)) (w : World) (ha : GridAt w a L) (hl : tot L ≤ 1048576) :
    Calls Tryd.prog 9 #[.slice a L.length c] w fun e w' => e = .returned (.string (Gr.said L)) ∧ Below w.heap.size w w' := by
  have hI := impl_IsGraph a c L w ha hl
  generalize hv : Gr.said L = V
  unfold Gr.said at hv
  by_cases hG : Gr.IsG L
  case neg =>
    rw [if_neg hG] at hv
    rw [decide_eq_false hG] at hI
    have HI := Lib.hid hI; have Hv := Lib.hid hv
    clear hI hG ha hv
    go_enter Tryd.func9, Tryd.ntmps9
    go_wp2_with fail
    refine HI.out.mono ?_
    rintro e w1 ⟨rfl, hb1⟩
    go_wp2
    go_ret
    exact ⟨by rw [← Hv.out]; rfl, hb1⟩
  rw [if_pos hG] at hv
  rw [decide_eq_true hG] at hI
  have hl1 := hG.2.1
  have hl10 := hG.2.2
  have htt := Gr.txs_total L
  have hln := Gr.txs_len L
  obtain ⟨i0, hi0, hz0, hz1, hz2⟩ := info_str_parts
  have Hi0 := Lib.hid hi0; have Hz0 := Lib.hid hz0; have Hz1 := Lib.hid hz1; have Hz2 := Lib.hid hz2
  have hJ := fun b o cc W (h : RowAt W (some ⟨b, o, none⟩) (strCells (Gr.txs L))) hc => impl_Join b o cc (Gr.txs L) ⟨#[32]⟩ W h (by omega) (by show (1 : Nat) ≤ _; omega) hc
  rw [hln, show (⟨#[32]⟩ : ByteArray).data.toList = [32] from rfl, hv] at hJ
  have HI := Lib.hid hI; have HG := Lib.hid hG; have HJ := Lib.hid hJ; have Ha := Lib.hid ha
  clear hI hG ha hv hJ hi0 hz0 hz1 hz2 htt hln
  go_enter Tryd.func9, Tryd.ntmps9
  go_wp2_with fail
  refine HI.out.mono ?_
  rintro e w1 ⟨rfl, hb1⟩
  have Hb1 := Lib.hid hb1
  clear hb1
  go_wp2
  go_loopw [3, 5, 11] (fun ov _ iv wr => ∃ i : Nat, i ≤ L.length ∧ iv = .int .i64 i ∧ Hid (Below w.heap.size w wr) ∧ wr.ownsRow w.heap.size 9 1 ov i (strCells (Gr.txs (L.take i)))) (fun _ _ iv _ => L.length - (intOf iv).toNat)
  case atStart => exact ⟨0, by omega, rfl, Lib.hid Hb1.out, World.ownsRow_nil _ _ _ _⟩
  case round =>
    obtain ⟨i, hi, rfl, hb, hown⟩ := hrel
    by_cases hlt : i < L.length
    · obtain ⟨r, hr⟩ := get_some hlt
      obtain ⟨e, l1, l2, _⟩ := Gr.ends HG.out hlt
      rw [hr] at e
      cases e
      have hst := Gr.txs_snoc hr
      rw [Gr.tx_two] at hst
      have hFx := fun W => impl_FormatDigit (Gr.vx L (2 * i)) l1 W
      have hFy := fun W => impl_FormatDigit (Gr.vx L (2 * i + 1)) l2 W
      have hX1 := Gr.dg_size (Gr.vx L (2 * i))
      have hY1 := Gr.dg_size (Gr.vx L (2 * i + 1))
      obtain ⟨b, o, ai, ci, rfl, hbw, hcell, hrow⟩ := Ha.out.get hr
      obtain ⟨b', o', rfl, hbw', hcx, hcy⟩ := two_cells hrow
      generalize Gr.vx L (2 * i) = x at *
      generalize Gr.vx L (2 * i + 1) = y at *
      generalize Gr.dg x = X at *
      generalize Gr.dg y = Y at *
      generalize hT : Gr.txs (L.take i) = T at *
      have hcl : ∀ W, Below w.heap.size w W → W.cell? ⟨b, o + i, none⟩ = some (.slice (some ⟨b', o', none⟩) 2 ci) := fun W h => by rw [h.cell (p := ⟨b, o + i, none⟩) hbw]; exact hcell
      have hx : ∀ W, Below w.heap.size w W → W.cell? ⟨b', o', none⟩ = some (.int .i64 (x : Int)) := fun W h => by rw [h.cell (p := ⟨b', o', none⟩) hbw']; exact hcx
      have hy : ∀ W, Below w.heap.size w W → W.cell? ⟨b', o' + 1, none⟩ = some (.int .i64 (y : Int)) := fun W h => by rw [h.cell (p := ⟨b', o' + 1, none⟩) hbw']; exact hcy
      have hK : ∀ W, Below w.heap.size w W → W.cell? ⟨b', o', none⟩ = some (.int .i64 (x : Int)) ∧ W.cell? ⟨b', o' + 1, none⟩ = some (.int .i64 (y : Int)) ∧ Below w.heap.size w W := fun W h => ⟨hx W h, hy W h, h⟩
      have HK := Lib.hid hK
      have HKa : Hid (∀ W q, (W.cell? ⟨b', o', none⟩ = some (.int .i64 (x : Int)) ∧ W.cell? ⟨b', o' + 1, none⟩ = some (.int .i64 (y : Int)) ∧ Below w.heap.size w W) → (W.alloc q).cell? ⟨b', o', none⟩ = some (.int .i64 (x : Int)) ∧ (W.alloc q).cell? ⟨b', o' + 1, none⟩ = some (.int .i64 (y : Int)) ∧ Below w.heap.size w (W.alloc q)) := Lib.hid (fun W q h => HK.out _ ((below_on3 h (Below.refl _ _)).alloc (below_on3 h (Below.refl _ _)).size q))
      have HKd := Lib.hid (hK wr.drew (Below.drew hb.out))
      have c0 := hcl wr hb.out
      have HFx := Lib.hid hFx; have HFy := Lib.hid hFy; have Hst := Lib.hid hst
      obtain ⟨av, cv, rfl⟩ := own_len hown
      have Hown := Lib.hid hown
      have hm1 : i + 1 ≤ maxLen := by unfold maxLen; omega
      have hm2 : (i + 1) * 16 ≤ 140737488355328 := by omega
      have hsz : ¬ 9223372036854775807 < X.size + Y.size := by omega
      have h0i : (0 : Int) ≤ (i : Int) := by omega
      have h1i : (i : Int) < (L.length : Int) := by omega
      have Hlt := Lib.hid hlt
      clear hK hcl hx hy hcx hcy hcell hrow hr hFx hFy hst hT hown l1 l2 hlt
      have Hown1 : Hid (((wr.alloc (.cells #[.string (X ++ Y)] 9)).drew).ownsRow w.heap.size 9 1 (.slice av i cv) i (strCells T)) := Lib.hid (Hown.out.alloc _).drew
      have Hrow1 : Hid (RowAt (wr.alloc (.cells #[.string (X ++ Y)] 9)).drew (some ⟨wr.heap.size, 0, none⟩) [.string (X ++ Y)]) := Lib.hid (Blk.new wr 9 #[.string (X ++ Y)]).drew.row
      have Hb2 : Hid (Below w.heap.size w (wr.alloc (.cells #[.string (X ++ Y)] 9)).drew) := Lib.hid (Below.drew (hb.out.alloc hb.out.size _))
      have HK1 := Lib.hid (HK.out _ Hb2.out)
      go_wp2
      clear c0
      go_region_held3 (fun w' => w'.cell? ⟨b', o', none⟩ = some (.int .i64 (x : Int)) ∧ w'.cell? ⟨b', o' + 1, none⟩ = some (.int .i64 (y : Int)) ∧ Below w.heap.size w w') (first | (with_reducible assumption) | (with_reducible exact HKd.out) | (with_reducible exact HK1.out) | (with_reducible exact HKa.out _ _ (by assumption)) | (with_reducible exact HK.out _ (by assumption))) (first | (go_at_call_of 46 x; refine (HFx.out _).mono ?_; rintro e w5 ⟨rfl, hw5⟩; rw [hw5]; clear hw5 w5) | (go_at_call_of 46 y; refine (HFy.out _).mono ?_; rintro e w5 ⟨rfl, hw5⟩; rw [hw5]; clear hw5 w5) | (refine step_append_row rfl (.tmp 15) (.tmp 25) 40 rfl w.heap.size 9 i0 _ 16 Tryd.underlying40 Hi0.out Hz0.out Hz1.out Hz2.out (by rfl) _ _ _ (by rfl) (Hown1.out) _ 1 _ [.string (X ++ Y)] (by rfl) Hrow1.out rfl (fun u hu => by rw [List.mem_singleton.1 hu]; rfl) hm1 hm2 Hb2.out.size ?_; intro v9 w9 hown9 hg9; have hB9 := Below.grown Hb2.out hg9 Hb2.out.size (fun k hk => (Hown.out.lt k hk).1); obtain ⟨av9, cv9, rfl⟩ := own_len hown9))
      all_goals
        go_wp2
        go_roundw
        case rel => exact ⟨i + 1, Hlt.out, by go_num, Lib.hid hB9, by rw [Hst.out, ← strCells_snoc]; exact hown9⟩
        case measure => have := Hlt.out; simp [intOf] <;> omega
    · obtain rfl : i = L.length := by omega
      rw [List.take_of_length_le (Nat.le_refl _)] at hown
      obtain ⟨g, cap, rfl, hcp, _⟩ := own_form hown (by omega)
      obtain ⟨av, cv, e, hrow⟩ := own_row hown (by rw [strCells_len, Gr.txs_len])
      cases e
      have Hrow := Lib.hid hrow
      clear hrow hown hlt
      go_wp2_with fail
      refine (HJ.out g 0 cap wr Hrow.out hcp).mono ?_
      rintro e w2 ⟨rfl, hb2⟩
      go_wp2
      go_ret
      exact ⟨rfl, hb.out.trans (hb2.mono hb.out.size)⟩

set_option maxRecDepth 10000 in
set_option maxHeartbeats 4000000 in
theorem spec_GraphText (a : Option Addr) (c : Nat) (L : List (List Int)) (w : World) (ha : GridAt w a L) (hl : tot L ≤ 1048576) :
    Calls Tryd.prog 7 #[.slice a L.length c] w fun e w' => e = .returned (.string (Gr.said L)) ∧ Below w.heap.size w w' := by
  have hI := spec_IsGraph a c L w ha hl
  generalize hv : Gr.said L = V
  unfold Gr.said at hv
  by_cases hG : Gr.IsG L
  case neg =>
    rw [if_neg hG] at hv
    rw [decide_eq_false hG] at hI
    have HI := Lib.hid hI; have Hv := Lib.hid hv
    clear hI hG ha hv
    go_enter Tryd.func7, Tryd.ntmps7
    go_wp2_with fail
    refine HI.out.mono ?_
    rintro e w1 ⟨rfl, hb1⟩
    go_wp2
    go_ret
    exact ⟨by rw [← Hv.out]; rfl, hb1⟩
  rw [if_pos hG] at hv
  rw [decide_eq_true hG] at hI
  have hl1 := hG.2.1
  have hl10 := hG.2.2
  have htt := Gr.txs_total L
  have hln := Gr.txs_len L
  obtain ⟨i0, hi0, hz0, hz1, hz2⟩ := info_str_parts
  have Hi0 := Lib.hid hi0; have Hz0 := Lib.hid hz0; have Hz1 := Lib.hid hz1; have Hz2 := Lib.hid hz2
  have hJ := fun ad cc W (h : RowAt W ad (strCells (Gr.txs L))) => spec_Join ad cc (Gr.txs L) ⟨#[32]⟩ W h (by omega) (by show (1 : Nat) ≤ _; omega)
  rw [hln, show (⟨#[32]⟩ : ByteArray).data.toList = [32] from rfl, hv] at hJ
  have HI := Lib.hid hI; have HG := Lib.hid hG; have HJ := Lib.hid hJ; have Ha := Lib.hid ha
  clear hI hG ha hv hJ hi0 hz0 hz1 hz2 htt hln
  go_enter Tryd.func7, Tryd.ntmps7
  go_wp2_with fail
  refine HI.out.mono ?_
  rintro e w1 ⟨rfl, hb1⟩
  have Hb1 := Lib.hid hb1
  clear hb1
  have hmd := made_strs (w := w1) rfl
  have Hmd := Lib.hid hmd; clear hmd
  go_wp2
  go_loopw [3, 4] (fun ov iv wr => ∃ i : Nat, i ≤ L.length ∧ iv = .int .i64 i ∧ Hid (Below w.heap.size w wr) ∧ wr.ownsRow w.heap.size 9 1 ov i (strCells (Gr.txs (L.take i)))) (fun _ iv _ => L.length - (intOf iv).toNat)
  case atStart => exact ⟨0, by omega, rfl, Lib.hid (Hb1.out.alloc Hb1.out.size _), own_mono Hmd.out Hb1.out.size⟩
  case round =>
    obtain ⟨i, hi, rfl, hb, hown⟩ := hrel
    by_cases hlt : i < L.length
    · obtain ⟨r, hr⟩ := get_some hlt
      obtain ⟨e, l1, l2, _⟩ := Gr.ends HG.out hlt
      rw [hr] at e
      cases e
      have hst := Gr.txs_snoc hr
      rw [Gr.tx_two] at hst
      have hFx := fun W => spec_FormatDigit (Gr.vx L (2 * i)) l1 W
      have hFy := fun W => spec_FormatDigit (Gr.vx L (2 * i + 1)) l2 W
      have hX1 := Gr.dg_size (Gr.vx L (2 * i))
      have hY1 := Gr.dg_size (Gr.vx L (2 * i + 1))
      obtain ⟨b, o, ai, ci, rfl, hbw, hcell, hrow⟩ := Ha.out.get hr
      obtain ⟨b', o', rfl, hbw', hcx, hcy⟩ := two_cells hrow
      generalize Gr.vx L (2 * i) = x at *
      generalize Gr.vx L (2 * i + 1) = y at *
      generalize Gr.dg x = X at *
      generalize Gr.dg y = Y at *
      generalize hT : Gr.txs (L.take i) = T at *
      have hcl : ∀ W, Below w.heap.size w W → W.cell? ⟨b, o + i, none⟩ = some (.slice (some ⟨b', o', none⟩) 2 ci) := fun W h => by rw [h.cell (p := ⟨b, o + i, none⟩) hbw]; exact hcell
      have hx : ∀ W, Below w.heap.size w W → W.cell? ⟨b', o', none⟩ = some (.int .i64 (x : Int)) := fun W h => by rw [h.cell (p := ⟨b', o', none⟩) hbw']; exact hcx
      have hy : ∀ W, Below w.heap.size w W → W.cell? ⟨b', o' + 1, none⟩ = some (.int .i64 (y : Int)) := fun W h => by rw [h.cell (p := ⟨b', o' + 1, none⟩) hbw']; exact hcy
      have hK : ∀ W, Below w.heap.size w W → W.cell? ⟨b, o + i, none⟩ = some (.slice (some ⟨b', o', none⟩) 2 ci) ∧ W.cell? ⟨b', o', none⟩ = some (.int .i64 (x : Int)) ∧ W.cell? ⟨b', o' + 1, none⟩ = some (.int .i64 (y : Int)) ∧ Below w.heap.size w W := fun W h => ⟨hcl W h, hx W h, hy W h, h⟩
      have HK := Lib.hid hK
      have HKa : Hid (∀ W q, (W.cell? ⟨b, o + i, none⟩ = some (.slice (some ⟨b', o', none⟩) 2 ci) ∧ W.cell? ⟨b', o', none⟩ = some (.int .i64 (x : Int)) ∧ W.cell? ⟨b', o' + 1, none⟩ = some (.int .i64 (y : Int)) ∧ Below w.heap.size w W) → (W.alloc q).cell? ⟨b, o + i, none⟩ = some (.slice (some ⟨b', o', none⟩) 2 ci) ∧ (W.alloc q).cell? ⟨b', o', none⟩ = some (.int .i64 (x : Int)) ∧ (W.alloc q).cell? ⟨b', o' + 1, none⟩ = some (.int .i64 (y : Int)) ∧ Below w.heap.size w (W.alloc q)) := Lib.hid (fun W q h => HK.out _ ((below_on4 h (Below.refl _ _)).alloc (below_on4 h (Below.refl _ _)).size q))
      have HKd := Lib.hid (hK wr.drew (Below.drew hb.out))
      have c0 := hcl wr hb.out
      have HFx := Lib.hid hFx; have HFy := Lib.hid hFy; have Hst := Lib.hid hst
      obtain ⟨av, cv, rfl⟩ := own_len hown
      have Hown := Lib.hid hown
      have hm1 : i + 1 ≤ maxLen := by unfold maxLen; omega
      have hm2 : (i + 1) * 16 ≤ 140737488355328 := by omega
      have hsz : ¬ 9223372036854775807 < X.size + Y.size := by omega
      have h0i : (0 : Int) ≤ (i : Int) := by omega
      have h1i : (i : Int) < (L.length : Int) := by omega
      have Hlt := Lib.hid hlt
      clear hK hcl hx hy hcx hcy hcell hrow hr hFx hFy hst hT hown l1 l2 hlt
      have HownW : Hid (∀ W, Below wr.heap.size wr W → W.ownsRow w.heap.size 9 1 (.slice av i cv) i (strCells T)) := Lib.hid (fun W h => own_keep Hown.out h (fun k hk => (Hown.out.lt k hk).2))
      go_wp2
      clear c0
      go_region_held3 (fun w' => w'.cell? ⟨b, o + i, none⟩ = some (.slice (some ⟨b', o', none⟩) 2 ci) ∧ w'.cell? ⟨b', o', none⟩ = some (.int .i64 (x : Int)) ∧ w'.cell? ⟨b', o' + 1, none⟩ = some (.int .i64 (y : Int)) ∧ Below w.heap.size w w') (first | (with_reducible assumption) | (with_reducible exact HKd.out) | (with_reducible exact HKa.out _ _ (by assumption)) | (with_reducible exact HK.out _ (by assumption))) (first | (go_at_call_of 42 x; refine (HFx.out _).mono ?_; rintro e w5 ⟨rfl, hb5⟩; have hB5 := below_on4 (by assumption) hb5; have hb5' := (Below.drew (Below.refl wr.heap.size wr)).trans hb5) | (go_at_call_of 42 y; refine (HFy.out _).mono ?_; rintro e w6 ⟨rfl, hb6⟩; have hB6 := below_on4 (by assumption) hb6; have hb6'' := hb5'.trans (hb6.mono hb5'.size)) | (refine step_append_row rfl (.tmp 15) (.tmp 31) 40 rfl w.heap.size 9 i0 _ 16 Tryd.underlying40 Hi0.out Hz0.out Hz1.out Hz2.out (by rfl) _ _ _ (by rfl) ((HownW.out _ hb6'').alloc _) _ 1 _ [.string (X ++ Y)] (by rfl) (Blk.new w6 9 #[.string (X ++ Y)]).row rfl (fun u hu => by rw [List.mem_singleton.1 hu]; rfl) hm1 hm2 (hB6.alloc hB6.size _).size ?_; intro v9 w9 hown9 hg9; have hB9 := Below.grown (hB6.alloc hB6.size (.cells #[.string (X ++ Y)] 9)) hg9 (hB6.alloc hB6.size _).size (fun k hk => (Hown.out.lt k hk).1); obtain ⟨av9, cv9, rfl⟩ := own_len hown9))
      all_goals
        go_wp2
        go_roundw
        case rel => exact ⟨i + 1, Hlt.out, by go_num, Lib.hid hB9, by rw [Hst.out, ← strCells_snoc]; exact hown9⟩
        case measure => have := Hlt.out; simp [intOf] <;> omega
    · obtain rfl : i = L.length := by omega
      rw [List.take_of_length_le (Nat.le_refl _)] at hown
      obtain ⟨av, cv, rfl, hrow⟩ := own_row hown (by rw [strCells_len, Gr.txs_len])
      have Hrow := Lib.hid hrow
      clear hrow hown hlt
      go_wp2_with fail
      refine (HJ.out av cv wr Hrow.out).mono ?_
      rintro e w2 ⟨rfl, hb2⟩
      go_wp2
      go_ret
      exact ⟨rfl, hb.out.trans (hb2.mono hb.out.size)⟩
end Go.Proofs.YtpgdmbolckogcaaDoor
