/-
  The walks of the program's and the model's IsGluing.
-/
import Derived.Test.YtpebgompfgkljaaBase
import Derived.Test.YtpebgompfgkljaaSlice
import Derived.Test.YtpebgompfgkljaaInts
import Derived.Test.YtpebgompfgkljaaWord
import Derived.Test.YtpebgompfgkljaaGrid
import Derived.Test.YtpebgompfgkljaaGlue
import Derived.Test.YtpebgompfgkljaaIsWord
import Derived.Test.YtpebgompfgkljaaUses
import Derived.Test.YtpebgompfgkljaaUses2
namespace Go.Proofs.Ytpebgompfgkljaa
open Go.RowKit

theorem arr_index (l : List Int) (hl : l.length = 9) (k : Nat) (hk : k < 9) (w : World) :
    (Instr.index 88 (.agg (intCells l).toArray) (.int .i64 k)).run Try.prog w = .ok (.int .i64 (l.getD k 0)) w := by
  match l, hl with
  | [x0, x1, x2, x3, x4, x5, x6, x7, x8], _ =>
    match k, hk with
    | 0, _ => show _ = _; kernel_rfl
    | 1, _ => show _ = _; kernel_rfl
    | 2, _ => show _ = _; kernel_rfl
    | 3, _ => show _ = _; kernel_rfl
    | 4, _ => show _ = _; kernel_rfl
    | 5, _ => show _ = _; kernel_rfl
    | 6, _ => show _ = _; kernel_rfl
    | 7, _ => show _ = _; kernel_rfl
    | 8, _ => show _ = _; kernel_rfl

namespace Glue
theorem isG_uses {L : List (List Int)} (h1 : 1 ≤ L.length) (h2 : L.length ≤ 4) (h3 : ∀ p ∈ L, RowOk p) (h4 : sumLen L ≤ 20) : decide (IsG L) = decide (∀ n ∈ uses L, n ≤ 2) :=
  decide_eq_decide.2 ⟨fun h => h.2.2.2.2, fun h => ⟨h1, h2, h3, h4, h⟩⟩
theorem bad_use {L : List (List Int)} {k : Nat} (hk : k < 9) (h : ¬ (uses L).getD k 0 ≤ 2) : decide (IsG L) = false :=
  decide_eq_false fun hg => h (by
    have hk' : k < (uses L).length := by rw [uses_len]; exact hk
    rw [← uses_at k hk']; exact hg.2.2.2.2 _ (List.getElem_mem hk'))
theorem good_uses {L : List (List Int)} (h1 : 1 ≤ L.length) (h2 : L.length ≤ 4) (h3 : ∀ p ∈ L, RowOk p) (h4 : sumLen L ≤ 20) (h : ∀ k, k < 9 → (uses L).getD k 0 ≤ 2) : decide (IsG L) = true :=
  decide_eq_true ⟨h1, h2, h3, h4, all_small fun k hk h9 => by rw [uses_at k hk]; exact h k h9⟩
theorem not_len {L : List (List Int)} (h : ¬ (1 ≤ L.length ∧ L.length ≤ 4)) : decide (IsG L) = false := decide_eq_false fun hg => h ⟨hg.1, hg.2.1⟩
theorem not_sum {L : List (List Int)} (h : ¬ sumLen L ≤ 20) : decide (IsG L) = false := decide_eq_false fun hg => h hg.2.2.2.1
theorem sum_small {L : List (List Int)} {i : Nat} (h : ∀ j (hj : j < L.length), j < i → RowOk L[j]) : sumLen (L.take i) ≤ 24 * i := by
  induction i with
  | zero => simp [sumLen]
  | succ i ih =>
    have h1 := ih (fun j hj hji => h j hj (by omega))
    by_cases hlt : i < L.length
    · rw [sumLen_take hlt]
      have := (h i hlt (by omega)).2.2
      omega
    · rw [List.take_of_length_le (by omega)] at h1 ⊢
      omega
end Glue

set_option maxRecDepth 10000 in
set_option maxHeartbeats 1000000 in
theorem spec_IsGluing_big (a : Option Addr) (c : Nat) (L : List (List Int)) (w : World) (ha : GridAt w a L) (hln : L.length ≤ 2000000) (hsm : sumLen L ≤ 60000000) (hrw : ∀ r ∈ L, r.length ≤ 1048576) :
    Calls Try.prog 78 #[.slice a L.length c] w fun e w' => e = .returned (.bool (decide (Glue.IsG L))) ∧ Below w.heap.size w w' := by
  generalize hv : decide (Glue.IsG L) = v
  have Hv := Lib.hid hv
  have Ha := Lib.hid ha
  have HL := Lib.hid hsm; have Hrw := Lib.hid hrw
  clear hv ha hsm hrw
  go_enter Try.func78, Try.ntmps78
  go_wp2
  go_loopw [2, 3, 4] (fun rv sv iv wr => rv = .bool false ∧ ∃ i : Nat, i ≤ L.length ∧ iv = .int .i64 i ∧ sv = .int .i64 (sumLen (L.take i) : Nat) ∧ Hid (∀ j (hj : j < L.length), j < i → Glue.RowOk L[j]) ∧ Below w.heap.size w wr) (fun _ _ iv _ => L.length - (intOf iv).toNat)
  case atStart => exact ⟨rfl, 0, by omega, rfl, by simp [sumLen], Lib.hid (fun _ _ h => by omega), Below.refl _ _⟩
  case round =>
    obtain ⟨rfl, i, hi, rfl, rfl, hall, hb⟩ := hrel
    by_cases hlt : i < L.length
    · obtain ⟨r, hr⟩ := get_some hlt
      have hri : L[i] = r := by rw [List.getElem?_eq_getElem hlt] at hr; exact Option.some.inj hr
      obtain ⟨b, o, ai, ci, rfl, hbw, hcell, hrow⟩ := (Ha.out.below hb).get hr
      have hst := sumLen_take hlt
      have hle := len_le_sumLen hlt
      have hle2 := sumLen_le L (i + 1)
      have htl := HL.out
      have hr1 := Hrw.out r (get_mem hr)
      rw [hri] at hst hle
      have hbad := Glue.not_row hlt
      rw [hri] at hbad
      have hnext : Glue.RowOk r → ∀ j (hj : j < L.length), j < i + 1 → Glue.RowOk L[j] := fun h j hj h' => by
        rcases Nat.lt_or_ge j i with h2 | h2
        · exact hall.out j hj h2
        · obtain rfl : j = i := by omega
          rw [hri]; exact h
      have hcW := spec_IsWord ai ci r wr hrow hr1
      generalize sumLen (L.take i) = S at *
      generalize hS' : sumLen (L.take (i + 1)) = S' at *
      have hbd : S + r.length ≤ 60000000 := by omega
      have Hst := Lib.hid hst; have HS' := Lib.hid hS'; have Hbad := Lib.hid hbad; have Hnext := Lib.hid hnext; have Hri := Lib.hid hri
      clear hst hS' hbad hnext hri hr hrow
      by_cases h0 : r.length = 0
      · have hv : v = false := by rw [← Hv.out]; exact Hbad.out (fun h => h.1 (List.eq_nil_of_length_eq_zero h0))
        have Hf := Lib.hid hv; clear hv
        have h0' : ((r.length : Int) == 0) = true := by rw [h0]; rfl
        go_wp2
        go_ret
        exact ⟨by rw [Hf.out]; rfl, hb⟩
      · by_cases hW : Word.IsW r
        · rw [decide_eq_true hW] at hcW
          have Hcw := Lib.hid hcW; have HW := Lib.hid hW
          clear hcW hW
          go_wp2_with fail
          refine Hcw.out.mono ?_
          rintro e w1 ⟨rfl, hb1⟩
          have hcell1 : w1.cell? ⟨b, o + i, none⟩ = some (.slice ai r.length ci) := by rw [hb1.cell hbw]; exact hcell
          have Hb := Lib.hid hb; have Hb1 := Lib.hid hb1
          clear hb hb1 hcell
          go_wp2
          go_roundw
          case rel =>
            refine ⟨rfl, i + 1, by omega, by go_num, by rw [HS'.out, Hst.out]; congr 1, Lib.hid (Hnext.out ⟨fun e => h0 (by rw [e]; rfl), HW.out⟩), Hb.out.trans (Hb1.out.mono Hb.out.size)⟩
          case measure => simp [intOf]; omega
        · have hv : v = false := by rw [← Hv.out]; exact Hbad.out (fun h => hW h.2)
          have Hf := Lib.hid hv; clear hv
          rw [decide_eq_false hW] at hcW
          have Hcw := Lib.hid hcW; have HW := Lib.hid hW
          clear hcW hW
          go_wp2_with fail
          refine Hcw.out.mono ?_
          rintro e w1 ⟨rfl, hb1⟩
          have Hb := Lib.hid hb; have Hb1 := Lib.hid hb1
          clear hb hb1
          go_wp2
          go_ret
          exact ⟨by rw [Hf.out]; rfl, Hb.out.trans (Hb1.out.mono Hb.out.size)⟩
    · obtain rfl : i = L.length := by omega
      rw [sumLen_all]
      have hrows := Glue.rows_of hall.out
      have hsum := Glue.sum_small hall.out
      rw [sumLen_all] at hsum
      have Hrows := Lib.hid hrows
      have hin := spec_l1In (L.length : Nat) 1 4 wr
      clear hrows hall
      by_cases hlen : 1 ≤ L.length ∧ L.length ≤ 4
      · rw [decide_eq_true (by omega)] at hin
        have Hin := Lib.hid hin; clear hin
        by_cases hs : sumLen L ≤ 20
        · have hU := fun W (h : GridAt W a L) => spec_l3Uses a c L W h (fun p hp => (Hrows.out p hp).2) (by omega) (by omega)
          have HU := Lib.hid hU
          have hgood := Glue.good_uses hlen.1 hlen.2 Hrows.out hs
          have hbadu := fun k (hk : k < 9) => Glue.bad_use (L := L) hk
          have hulen := Glue.uses_len L
          generalize hS : sumLen L = S at *
          have Hgood := Lib.hid hgood; have Hbadu := Lib.hid hbadu; have Hlen := Lib.hid hlen
          clear hU hgood hbadu hS hsum hlen
          go_wp2_with fail
          refine Hin.out.mono ?_
          rintro e w1 ⟨rfl, rfl⟩
          go_wp2_with fail
          refine (HU.out w1 (Ha.out.below hb)).mono ?_
          rintro e w2 ⟨g, rfl, hg, hk, hb2⟩
          have Hk := Lib.hid hk; have Hb0 := Lib.hid hb; have Hb2 := Lib.hid hb2
          have hbw : Below w.heap.size w w2 := hb.trans (hb2.mono hb.size)
          generalize Glue.uses L = U at *
          have Hul := Lib.hid hulen
          clear hk hb hb2 hulen
          go_wp2
          go_loopw [2, 6] (fun rv kv wr => rv = .bool false ∧ ∃ k : Nat, k ≤ 9 ∧ kv = .int .i64 k ∧ wr = w2 ∧ Hid (∀ j, j < k → U.getD j 0 ≤ 2)) (fun _ kv _ => 9 - (intOf kv).toNat)
          case atStart => exact ⟨rfl, 0, by omega, rfl, rfl, Lib.hid (fun _ h => by omega)⟩
          case round =>
            obtain ⟨rfl, k, hk9, rfl, rfl, hall⟩ := hrel
            by_cases hkt : k < 9
            · have hcu := ints_cell Hk.out (j := k) (by rw [Hul.out]; exact hkt)
              have hbu := Hbadu.out k hkt
              generalize hx : U.getD k 0 = x at *
              have Hx := Lib.hid hx; have Hbu := Lib.hid hbu
              clear hx hbu
              have hkc : (k : Int) < 9 := by omega
              by_cases h2 : x ≤ 2
              · go_wp2
                go_roundw
                case rel => exact ⟨rfl, k + 1, by omega, by go_num, trivial, Lib.hid (fun j hj => by
                  rcases Nat.lt_or_ge j k with h' | h'
                  · exact hall.out j h'
                  · obtain rfl : j = k := by omega
                    rw [Hx.out]; exact h2)⟩
                case measure => simp [intOf]; omega
              · have hv : v = false := by rw [← Hv.out]; exact Hbu.out (by omega)
                have Hf := Lib.hid hv; clear hv
                go_wp2
                go_ret
                exact ⟨by rw [Hf.out]; rfl, hbw⟩
            · obtain rfl : k = 9 := by omega
              have hv : v = true := by rw [← Hv.out]; exact Hgood.out hall.out
              have Hf := Lib.hid hv; clear hv
              go_wp2
              go_ret
              exact ⟨by rw [Hf.out]; rfl, hbw⟩
        · have hv : v = false := by rw [← Hv.out]; exact Glue.not_sum hs
          have Hf := Lib.hid hv; clear hv
          generalize hS : sumLen L = S at *
          have hsb : S ≤ 1000000 := by omega
          clear hS hsum
          go_wp2_with fail
          refine Hin.out.mono ?_
          rintro e w1 ⟨rfl, rfl⟩
          go_wp2
          go_ret
          exact ⟨by rw [Hf.out]; rfl, hb⟩
      · have hv : v = false := by rw [← Hv.out]; exact Glue.not_len hlen
        have Hf := Lib.hid hv
        rw [decide_eq_false (by omega)] at hin
        have Hin := Lib.hid hin
        clear hin hv
        go_wp2_with fail
        refine Hin.out.mono ?_
        rintro e w1 ⟨rfl, rfl⟩
        go_wp2
        go_ret
        exact ⟨by rw [Hf.out]; rfl, hb⟩

set_option maxRecDepth 10000 in
set_option maxHeartbeats 1000000 in
theorem impl_IsGluing_big (a : Option Addr) (c : Nat) (L : List (List Int)) (w : World) (ha : GridAt w a L) (hln : L.length ≤ 2000000) (hsm : sumLen L ≤ 60000000) (hrw : ∀ r ∈ L, r.length ≤ 1048576) :
    Calls Try.prog 83 #[.slice a L.length c] w fun e w' => e = .returned (.bool (decide (Glue.IsG L))) ∧ Below w.heap.size w w' := by
  generalize hv : decide (Glue.IsG L) = v
  have Hv := Lib.hid hv
  have Ha := Lib.hid ha
  have HL := Lib.hid hsm; have Hrw := Lib.hid hrw
  clear hv ha hsm hrw
  by_cases hz : L.length = 0
  · have hv : v = false := by rw [← Hv.out]; exact Glue.not_len (by omega)
    have Hf := Lib.hid hv; clear hv
    have hz' : ((L.length : Int) == 0) = true := by rw [hz]; rfl
    go_enter Try.func83, Try.ntmps83
    go_wp2
    go_ret
    exact ⟨by rw [Hf.out]; rfl, Below.refl _ _⟩
  by_cases h4 : 4 < L.length
  · have hv : v = false := by rw [← Hv.out]; exact Glue.not_len (by omega)
    have Hf := Lib.hid hv; clear hv
    go_enter Try.func83, Try.ntmps83
    go_wp2
    go_ret
    exact ⟨by rw [Hf.out]; rfl, Below.refl _ _⟩
  have hz' : ((L.length : Int) == 0) = false := beq_eq_false_iff_ne.2 (by omega)
  have h4' : ¬ ((4 : Int) < (L.length : Int)) := by omega
  go_enter Try.func83, Try.ntmps83
  go_wp2
  clear hz'
  go_loopw [2, 3, 5, 18] (fun rv sv _ iv wr => rv = .bool false ∧ ∃ i : Nat, i ≤ L.length ∧ iv = .int .i64 i ∧ sv = .int .i64 (sumLen (L.take i) : Nat) ∧ Hid (∀ j (hj : j < L.length), j < i → Glue.RowOk L[j]) ∧ Below w.heap.size w wr) (fun _ _ _ iv _ => L.length - (intOf iv).toNat)
  case atStart => exact ⟨rfl, 0, by omega, rfl, by simp [sumLen], Lib.hid (fun _ _ h => by omega), Below.refl _ _⟩
  case round =>
    obtain ⟨rfl, i, hi, rfl, rfl, hall, hb⟩ := hrel
    by_cases hlt : i < L.length
    · obtain ⟨r, hr⟩ := get_some hlt
      have hri : L[i] = r := by rw [List.getElem?_eq_getElem hlt] at hr; exact Option.some.inj hr
      obtain ⟨b, o, ai, ci, rfl, hbw, hcell, hrow⟩ := (Ha.out.below hb).get hr
      have hst := sumLen_take hlt
      have hle := len_le_sumLen hlt
      have hle2 := sumLen_le L (i + 1)
      have htl := HL.out
      have hr1 := Hrw.out r (get_mem hr)
      rw [hri] at hst hle
      have hbad := Glue.not_row hlt
      rw [hri] at hbad
      have hnext : Glue.RowOk r → ∀ j (hj : j < L.length), j < i + 1 → Glue.RowOk L[j] := fun h j hj h' => by
        rcases Nat.lt_or_ge j i with h2 | h2
        · exact hall.out j hj h2
        · obtain rfl : j = i := by omega
          rw [hri]; exact h
      have hcW := impl_IsWord ai ci r wr hrow hr1
      generalize sumLen (L.take i) = S at *
      generalize hS' : sumLen (L.take (i + 1)) = S' at *
      have hbd : S + r.length ≤ 60000000 := by omega
      have Hst := Lib.hid hst; have HS' := Lib.hid hS'; have Hbad := Lib.hid hbad; have Hnext := Lib.hid hnext; have Hri := Lib.hid hri
      clear hst hS' hbad hnext hri hr hrow
      by_cases h0 : r.length = 0
      · have hv : v = false := by rw [← Hv.out]; exact Hbad.out (fun h => h.1 (List.eq_nil_of_length_eq_zero h0))
        have Hf := Lib.hid hv; clear hv
        have h0' : ((r.length : Int) == 0) = true := by rw [h0]; rfl
        go_wp2
        go_ret
        exact ⟨by rw [Hf.out]; rfl, hb⟩
      · by_cases hW : Word.IsW r
        · rw [decide_eq_true hW] at hcW
          have Hcw := Lib.hid hcW; have HW := Lib.hid hW
          clear hcW hW
          go_wp2_with fail
          refine Hcw.out.mono ?_
          rintro e w1 ⟨rfl, hb1⟩
          have Hb := Lib.hid hb; have Hb1 := Lib.hid hb1
          clear hb hb1 hcell
          go_wp2
          go_roundw
          case rel =>
            refine ⟨rfl, i + 1, by omega, by go_num, by rw [HS'.out, Hst.out]; congr 1, Lib.hid (Hnext.out ⟨fun e => h0 (by rw [e]; rfl), HW.out⟩), Hb.out.trans (Hb1.out.mono Hb.out.size)⟩
          case measure => simp [intOf]; omega
        · have hv : v = false := by rw [← Hv.out]; exact Hbad.out (fun h => hW h.2)
          have Hf := Lib.hid hv; clear hv
          rw [decide_eq_false hW] at hcW
          have Hcw := Lib.hid hcW; have HW := Lib.hid hW
          clear hcW hW
          go_wp2_with fail
          refine Hcw.out.mono ?_
          rintro e w1 ⟨rfl, hb1⟩
          have Hb := Lib.hid hb; have Hb1 := Lib.hid hb1
          clear hb hb1
          go_wp2
          go_ret
          exact ⟨by rw [Hf.out]; rfl, Hb.out.trans (Hb1.out.mono Hb.out.size)⟩
    · obtain rfl : i = L.length := by omega
      rw [sumLen_all]
      have hrows := Glue.rows_of hall.out
      have hsum := Glue.sum_small hall.out
      rw [sumLen_all] at hsum
      have Hrows := Lib.hid hrows
      clear hrows hall
      by_cases hs : sumLen L ≤ 20
      · have hU := fun W (h : GridAt W a L) => impl_countLetters a c L W h (fun p hp => (Hrows.out p hp).2) (by omega) (by omega)
        have HU := Lib.hid hU
        have hgood := Glue.good_uses (L := L) (by omega) (by omega) Hrows.out hs
        have hbadu := fun k (hk : k < 9) => Glue.bad_use (L := L) hk
        have hix := fun k (hk : k < 9) W => arr_index (Glue.uses L) (Glue.uses_len L) k hk W
        generalize hS : sumLen L = S at *
        have Hgood := Lib.hid hgood; have Hbadu := Lib.hid hbadu; have Hix := Lib.hid hix
        clear hU hgood hbadu hS hsum hix
        go_wp2_with fail
        refine (HU.out wr (Ha.out.below hb)).mono ?_
        rintro e w2 ⟨rfl, hb2⟩
        have Hb2 := Lib.hid hb2
        have hbw : Below w.heap.size w w2 := hb.trans (hb2.mono hb.size)
        generalize Glue.uses L = U at *
        clear hb hb2
        go_wp2
        go_loopw [2, 7, 39] (fun rv _ kv wr => rv = .bool false ∧ ∃ k : Nat, k ≤ 9 ∧ kv = .int .i64 k ∧ wr = w2 ∧ Hid (∀ j, j < k → U.getD j 0 ≤ 2)) (fun _ _ kv _ => 9 - (intOf kv).toNat)
        case atStart => exact ⟨rfl, 0, by omega, rfl, rfl, Lib.hid (fun _ h => by omega)⟩
        case round =>
          obtain ⟨rfl, k, hk9, rfl, rfl, hall⟩ := hrel
          by_cases hkt : k < 9
          · have hix := Hix.out k hkt wr
            have hbu := Hbadu.out k hkt
            generalize hx : U.getD k 0 = x at *
            have Hx := Lib.hid hx; have Hbu := Lib.hid hbu
            clear hx hbu
            have hkc : (k : Int) < 9 := by omega
            by_cases h2 : x ≤ 2
            · go_wp2
              go_roundw
              case rel => exact ⟨rfl, k + 1, by omega, by go_num, trivial, Lib.hid (fun j hj => by
                rcases Nat.lt_or_ge j k with h' | h'
                · exact hall.out j h'
                · obtain rfl : j = k := by omega
                  rw [Hx.out]; exact h2)⟩
              case measure => simp [intOf]; omega
            · have hv : v = false := by rw [← Hv.out]; exact Hbu.out (by omega)
              have Hf := Lib.hid hv; clear hv
              go_wp2
              go_ret
              exact ⟨by rw [Hf.out]; rfl, hbw⟩
          · obtain rfl : k = 9 := by omega
            have hv : v = true := by rw [← Hv.out]; exact Hgood.out hall.out
            have Hf := Lib.hid hv; clear hv
            go_wp2
            go_ret
            exact ⟨by rw [Hf.out]; rfl, hbw⟩
      · have hv : v = false := by rw [← Hv.out]; exact Glue.not_sum hs
        have Hf := Lib.hid hv; clear hv
        generalize hS : sumLen L = S at *
        have hsb : S ≤ 1000000 := by omega
        clear hS hsum
        go_wp2
        go_ret
        exact ⟨by rw [Hf.out]; rfl, hb⟩
theorem tot_parts {L : List (List Int)} (hl : tot L ≤ 1048576) : L.length ≤ 2000000 ∧ sumLen L ≤ 60000000 ∧ ∀ r ∈ L, r.length ≤ 1048576 := by
  unfold tot at hl
  refine ⟨by omega, by omega, fun r hr => ?_⟩
  obtain ⟨i, hi, rfl⟩ := List.mem_iff_getElem.1 hr
  have := len_le_sumLen hi
  omega
theorem spec_IsGluing (a : Option Addr) (c : Nat) (L : List (List Int)) (w : World) (ha : GridAt w a L) (hl : tot L ≤ 1048576) :
    Calls Try.prog 78 #[.slice a L.length c] w fun e w' => e = .returned (.bool (decide (Glue.IsG L))) ∧ Below w.heap.size w w' :=
  spec_IsGluing_big a c L w ha (tot_parts hl).1 (tot_parts hl).2.1 (tot_parts hl).2.2
theorem impl_IsGluing (a : Option Addr) (c : Nat) (L : List (List Int)) (w : World) (ha : GridAt w a L) (hl : tot L ≤ 1048576) :
    Calls Try.prog 83 #[.slice a L.length c] w fun e w' => e = .returned (.bool (decide (Glue.IsG L))) ∧ Below w.heap.size w w' :=
  impl_IsGluing_big a c L w ha (tot_parts hl).1 (tot_parts hl).2.1 (tot_parts hl).2.2
end Go.Proofs.Ytpebgompfgkljaa
