/-
  The walk of the model's GluePolygons at every argument.
-/
import Derived.Test.YtlfniodocaiijaaBase
import Derived.Test.YtlfniodocaiijaaSlice
import Derived.Test.YtlfniodocaiijaaIntRow
import Derived.Test.YtlfniodocaiijaaInts
import Derived.Test.YtlfniodocaiijaaOwn
import Derived.Test.YtlfniodocaiijaaGrid
import Derived.Test.YtlfniodocaiijaaGridWalk
import Derived.Test.YtlfniodocaiijaaGridRows
import Derived.Test.YtlfniodocaiijaaWord
import Derived.Test.YtlfniodocaiijaaGlue
import Derived.Test.YtlfniodocaiijaaIsWord
import Derived.Test.YtlfniodocaiijaaUses
import Derived.Test.YtlfniodocaiijaaIsGluing
import Derived.Test.YtlfniodocaiijaaAppend
import Derived.Test.YtlfniodocaiijaaConcat
import Derived.Test.YtlfniodocaiijaaTurn
import Derived.Test.YtlfniodocaiijaaIter
import Derived.Test.YtlfniodocaiijaaInvert
import Derived.Test.YtlfniodocaiijaaClass
import Derived.Test.YtlfniodocaiijaaLab
import Derived.Test.YtlfniodocaiijaaEnds
import Derived.Test.YtlfniodocaiijaaLetters
import Derived.Test.YtlfniodocaiijaaMove
import Derived.Test.YtlfniodocaiijaaMoveA
import Derived.Test.YtlfniodocaiijaaMoveB
import Derived.Test.YtlfniodocaiijaaMoveC
import Derived.Test.YtlfniodocaiijaaCut
import Derived.Test.YtlfniodocaiijaaGlA
import Derived.Test.YtlfniodocaiijaaGlB
import Derived.Test.YtlfniodocaiijaaGlC
import Derived.Test.YtlfniodocaiijaaGlD
import Derived.Test.YtlfniodocaiijaaGlE
namespace Go.Proofs.Ytlfniodocaiijaa
open Go.RowKit

set_option maxRecDepth 10000 in
set_option maxHeartbeats 4000000 in
theorem spec_GluePolygons (a : Option Addr) (c : Nat) (L : List (List Int)) (x : Int) (w : World) (ha : GridC w a L) (hl : tot L ≤ 1048576) (_hx0 : -9223372036854775808 ≤ x) (_hx1 : x ≤ 9223372036854775807) :
    Calls Try.prog 11 #[.slice a L.length c, .int .i64 x] w fun e w' => GivesRows2 w (Mv.glue L x) (decide (Mv.GlueOk L x)) e w' := by
  have hGc := spec_IsGluing a c L w ha.grid hl
  by_cases hG : Glue.IsG L
  · rw [decide_eq_true hG] at hGc
    have hIn := fun W => spec_l1In x 1 8 W
    by_cases hx : 1 ≤ x ∧ x ≤ 8
    · obtain ⟨X, rfl⟩ : ∃ X : Nat, x = (X : Int) := ⟨x.toNat, by omega⟩
      by_cases h2 : (Mv.found L (X : Int)).length = 2
      · obtain ⟨p, q, hf⟩ : ∃ p q, Mv.found L (X : Int) = [p, q] := by
          match hf : Mv.found L (X : Int), h2 with
          | [p, q], _ => exact ⟨p, q, rfl⟩
        exact spec_GluePolygons_in a c L X w ha hl hG (by omega) (by omega) p q hf
      · obtain ⟨hn1, hn2⟩ := Mv.glue_no (L := L) (x := (X : Int)) (fun _ => h2)
        rw [hn2, decide_eq_false hn1]
        rw [decide_eq_true hx] at hIn
        have hln : L.length ≤ 4 := hG.2.1
        have hqv : Mv.qv (Mv.onesTo L X L.length) = -1 := Mv.qv_short (by
          rcases Nat.lt_or_ge (Mv.onesTo L X L.length).length 2 with h | h
          · exact h
          · exact absurd (Mv.ones_two (X := X) hG (by omega) (Or.inr h)).2 h2)
        have hcount := fun W (hW : Below w.heap.size w W) i r (hr : L[i]? = some r) ai ci (hrow : RowAt W ai (intCells r)) => spec_l5Count ai ci X r W hrow (by have := (hG.w r (get_mem hr)).2; omega) (hG.w r (get_mem hr)).1
        have hpos : 0 < L.length := hG.1
        obtain ⟨r0, hr0⟩ := get_some hpos
        obtain ⟨b, o, _, _, rfl, _, _, _⟩ := ha.cell hr0
        have HGc := Lib.hid hGc; have HIn := Lib.hid hIn; have Hcount := Lib.hid hcount; have Ha := Lib.hid ha; have Hqv := Lib.hid hqv
        clear hGc hIn hcount ha hqv hn1 hn2 hG h2 hx hr0
        go_enter Try.func11, Try.ntmps11
        go_wp2_with fail
        refine HGc.out.mono ?_
        rintro e w1 ⟨rfl, hb1⟩
        have Hb1 := Lib.hid hb1; clear hb1
        go_wp2_with fail
        refine (HIn.out _).mono ?_
        rintro e w9 ⟨rfl, hw9⟩
        rw [hw9]; clear hw9 w9
        go_wp2
        go_loopw [6, 7, 8] (fun pvv qvv kv wr => wr = w1 ∧ ∃ i : Nat, i ≤ L.length ∧ kv = .int .i64 i ∧ pvv = .int .i64 (Mv.pv (Mv.onesTo L X i)) ∧ qvv = .int .i64 (Mv.qv (Mv.onesTo L X i))) (fun _ _ kv _ => L.length - (intOf kv).toNat)
        case atStart => exact ⟨rfl, 0, by omega, rfl, rfl, rfl⟩
        case round =>
          obtain ⟨hwr, i, hi, rfl, rfl, rfl⟩ := hrel
          by_cases hlt : i < L.length
          · obtain ⟨r, hr⟩ := get_some hlt
            obtain ⟨_, _, ri, rj, e1, _, hcr, hrr⟩ := Ha.out.cell hr
            cases e1
            have hcell : wr.cell? ⟨b, o + i, none⟩ = some (.slice ri r.length rj) := by rw [hwr]; exact hcr w1 Hb1.out
            have hcn := Hcount.out wr (by rw [hwr]; exact Hb1.out) i r hr ri rj (by rw [hwr]; exact hrr w1 Hb1.out)
            have h1o := fun h => Mv.onesTo_in (X := X) hr h
            have h0o := fun h => Mv.onesTo_out (X := X) hr h
            have Hwr := Lib.hid hwr
            have hpv1 := Mv.pv_later (F := Mv.onesTo L X i)
            have hpv2 := Mv.pv_pos (F := Mv.onesTo L X i)
            have hqv1 := Mv.qv_later (F := Mv.onesTo L X i)
            generalize hcv : Mv.cnt r X = cv at *
            have Hcn := Lib.hid hcn
            clear hwr hcr hrr hcn hr hcv
            by_cases hc1 : cv = 1
            · have hst := h1o hc1
              subst hc1
              by_cases hF : Mv.onesTo L X i = []
              · rw [hF] at hst ⊢
                have Hst := Lib.hid hst
                clear hst h1o h0o hpv1 hpv2 hqv1
                have hF' := Lib.hid hF
                clear hF
                rw [show Mv.pv [] = -1 from rfl]
                go_wp2_with fail
                refine Hcn.out.mono ?_
                rintro e w9 ⟨rfl, hw9⟩
                rw [hw9]; clear hw9 w9
                go_wp2
                go_roundw
                case rel => exact ⟨Hwr.out, i + 1, by omega, by go_num, by rw [Hst.out]; rfl, by rw [Hst.out]; rfl⟩
                case measure => simp [intOf]; omega
              · have hge := hpv2 hF
                have e1 := hpv1 hF i
                have e2 := hqv1 hF i
                have Hst := Lib.hid hst; have He1 := Lib.hid e1; have He2 := Lib.hid e2
                generalize hPV : Mv.pv (Mv.onesTo L X i) = PV at *
                have HPV := Lib.hid hPV
                have dge : decide (PV < 0) = false := decide_eq_false (by omega)
                clear hst h1o h0o hpv1 hpv2 hqv1 e1 e2 hPV hF
                go_wp2_with fail
                refine Hcn.out.mono ?_
                rintro e w9 ⟨rfl, hw9⟩
                rw [hw9]; clear hw9 w9
                go_wp2
                go_roundw
                case rel => exact ⟨Hwr.out, i + 1, by omega, by go_num, by rw [Hst.out, He1.out], by rw [Hst.out, He2.out]⟩
                case measure => simp [intOf]; omega
            · have Hst := Lib.hid (h0o hc1)
              have b1 : ((cv : Int) == 1) = false := beq_eq_false_iff_ne.2 (by omega)
              clear h1o h0o hpv1 hpv2 hqv1
              go_wp2_with fail
              refine Hcn.out.mono ?_
              rintro e w9 ⟨rfl, hw9⟩
              rw [hw9]; clear hw9 w9
              go_wp2
              go_roundw
              case rel => exact ⟨Hwr.out, i + 1, by omega, by go_num, by rw [Hst.out], by rw [Hst.out]⟩
              case measure => simp [intOf]; omega
          · obtain rfl : i = L.length := by omega
            rw [Hqv.out, hwr]
            clear hwr
            generalize Mv.pv (Mv.onesTo L X L.length) = PV at *
            go_wp2
            go_ret2
            exact GivesRows2.none (Hb1.out.alloc Hb1.out.size _) (Nat.zero_le _)
    · rw [decide_eq_false hx] at hIn
      obtain ⟨hn1, hn2⟩ := Mv.glue_no (L := L) (x := x) (fun h => by rw [Mv.found_big h hx]; simp)
      rw [hn2, decide_eq_false hn1]
      have HGc := Lib.hid hGc; have HIn := Lib.hid hIn
      clear hGc hIn hn1 hn2 hG hx ha
      go_enter Try.func11, Try.ntmps11
      go_wp2_with fail
      refine HGc.out.mono ?_
      rintro e w1 ⟨rfl, hb1⟩
      go_wp2_with fail
      refine (HIn.out _).mono ?_
      rintro e w9 ⟨rfl, hw9⟩
      rw [hw9]; clear hw9 w9
      go_wp2
      go_ret2
      exact GivesRows2.none (hb1.alloc hb1.size _) (Nat.zero_le _)
  · rw [decide_eq_false hG] at hGc
    obtain ⟨hn1, hn2⟩ := Mv.glue_no (L := L) (x := x) (fun h => absurd h hG)
    rw [hn2, decide_eq_false hn1]
    have HGc := Lib.hid hGc
    clear hGc hn1 hn2 hG ha
    go_enter Try.func11, Try.ntmps11
    go_wp2_with fail
    refine HGc.out.mono ?_
    rintro e w1 ⟨rfl, hb1⟩
    go_wp2
    go_ret2
    exact GivesRows2.none (hb1.alloc hb1.size _) (Nat.zero_le _)
end Go.Proofs.Ytlfniodocaiijaa
