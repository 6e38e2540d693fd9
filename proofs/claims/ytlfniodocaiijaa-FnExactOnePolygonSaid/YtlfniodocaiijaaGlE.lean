/-
  The walk of the model's GluePolygons, where two polygons are found.
-/
import Derived.Test.YtlfniodocaiijaaBase
import Derived.Test.YtlfniodocaiijaaSlice
import Derived.Test.YtlfniodocaiijaaIntRow
import Derived.Test.YtlfniodocaiijaaInts
import Derived.Test.YtlfniodocaiijaaOwn
import Derived.Test.YtlfniodocaiijaaGrid
import Derived.Test.YtlfniodocaiijaaGridWalk
import Derived.Test.YtlfniodocaiijaaGridRows
import Derived.Test.YtlfniodocaiijaaWord
import Derived.Test.YtlfniodocaiijaaGlue
import Derived.Test.YtlfniodocaiijaaIsWord
import Derived.Test.YtlfniodocaiijaaUses
import Derived.Test.YtlfniodocaiijaaIsGluing
import Derived.Test.YtlfniodocaiijaaAppend
import Derived.Test.YtlfniodocaiijaaConcat
import Derived.Test.YtlfniodocaiijaaTurn
import Derived.Test.YtlfniodocaiijaaIter
import Derived.Test.YtlfniodocaiijaaInvert
import Derived.Test.YtlfniodocaiijaaClass
import Derived.Test.YtlfniodocaiijaaLab
import Derived.Test.YtlfniodocaiijaaEnds
import Derived.Test.YtlfniodocaiijaaLetters
import Derived.Test.YtlfniodocaiijaaMove
import Derived.Test.YtlfniodocaiijaaMoveA
import Derived.Test.YtlfniodocaiijaaMoveB
import Derived.Test.YtlfniodocaiijaaMoveC
import Derived.Test.YtlfniodocaiijaaCut
import Derived.Test.YtlfniodocaiijaaGlA
import Derived.Test.YtlfniodocaiijaaGlB
import Derived.Test.YtlfniodocaiijaaGlC
import Derived.Test.YtlfniodocaiijaaGlD
import Derived.Deep.QuietTactic
import Derived.BigQuiet
import Derived.Deep.RegionLaw
namespace Go.Proofs.Ytlfniodocaiijaa
open Go.RowKit

set_option maxRecDepth 10000 in
set_option maxHeartbeats 12000000 in
theorem spec_GluePolygons_in (a : Option Addr) (c : Nat) (L : List (List Int)) (X : Nat) (w : World) (ha : GridC w a L) (hl : tot L ≤ 1048576) (hG : Glue.IsG L) (hX1 : 1 ≤ X) (hX8 : X ≤ 8) (p q : Nat) (hf : Mv.found L (X : Int) = [p, q]) :
    Calls Try.prog 11 #[.slice a L.length c, .int .i64 (X : Int)] w fun e w' => GivesRows2 w (Mv.glue L (X : Int)) (decide (Mv.GlueOk L (X : Int))) e w' := by
  have hGc := spec_IsGluing a c L w ha.grid hl
  rw [decide_eq_true hG] at hGc
  have hIn := fun W => spec_l1In (X : Int) 1 8 W
  rw [decide_eq_true (show (1 : Int) ≤ (X : Int) ∧ (X : Int) ≤ 8 by omega)] at hIn
  obtain ⟨hv1, hv2⟩ := Mv.glue_val hG hf
  rw [hv1, hv2]
  obtain ⟨hpq, hql, rp, rq, hgp, hgq, hIp, hIq⟩ := Mv.found_two hf
  have hln : L.length ≤ 4 := hG.2.1
  rw [Mv.gluedAt_eq hgp hgq]
  have htot := Mv.glued_tot (x := (X : Int)) hG hgp hgq
  have hwp := hG.w rp (get_mem hgp)
  have hwq := hG.w rq (get_mem hgq)
  have hones := (Mv.ones_two (X := X) hG (by omega) (Or.inl (by rw [hf]; rfl))).1
  rw [hf] at hones
  have hcq1 : Mv.cnt rq X = 1 := by
    have : q ∈ Mv.onesTo L X L.length := by rw [hones]; simp
    have := (List.mem_filter.1 this).2
    rw [List.getD_eq_getElem?_getD, hgq] at this; simpa using this
  have hcount := fun W (hW : Below w.heap.size w W) i r (hr : L[i]? = some r) ai ci (hrow : RowAt W ai (intCells r)) => spec_l5Count ai ci X r W hrow (by have := (hG.w r (get_mem hr)).2; omega) (hG.w r (get_mem hr)).1
  obtain ⟨b, o, pa, pc, rfl, hpc, hcp, hrp⟩ := ha.cell hgp
  obtain ⟨_, _, qa, qc, e1, hqc, hcq, hrq⟩ := ha.cell hgq
  cases e1
  obtain ⟨y, hy, hyX⟩ := Mv.at_get hIp
  obtain ⟨z, hz, hzX⟩ := Mv.at_get hIq
  have hside := Mv.one_side hcq1 (show y.natAbs = X by omega) hz hzX
  have hk1 := Mv.at_lt.2 hIp
  have hkq := Mv.at_lt.2 hIq
  have hl24 := hwp.2
  have hm24 := hwq.2
  have hrp0 := hrp w (Below.refl _ _)
  obtain ⟨ab, ao, rfl⟩ := row_some hrp0 (by omega)
  have hjt := Mv.joined_turn (b := rq) hy
  have hjk := Mv.joined_keep (b := rq) hy
  have hIi := Mv.in_inv hIq
  have hwi := Mv.inv_w hwq
  have hAp := fun W (hW : Below w.heap.size w W) => spec_l5At (some ⟨ab, ao, none⟩) pc rp (X : Int) W (hrp W hW) (by omega) hwp.1
  rw [Mv.idxOf_in hIp] at hAp
  have hnil := Mv.glued_nil hpq hql
  have hrows := fun i r (hr : (L.set p (Mv.joined rp rq (X : Int)))[i]? = some r) (hi : i ≠ p) => (show L[i]? = some r by rwa [List.getElem?_set, if_neg (fun e => hi e.symm)] at hr)
  have hRp : (L.set p (Mv.joined rp rq (X : Int)))[p]? = some (Mv.joined rp rq (X : Int)) := by rw [List.getElem?_set, if_pos rfl, if_pos (by omega)]
  have hR := fun v W (h : Held W w.heap.size v ((L.set p (Mv.joined rp rq (X : Int))).eraseIdx q)) h2 => spec_l5Right v _ w.heap.size W h htot h2
  have hr24 : ∀ (i : Nat) (r : List Int), L[i]? = some r → r.length ≤ 24 := fun i r hr => (hG.w r (get_mem hr)).2
  have hjl := Mv.joined_len rp rq (X : Int)
  generalize hJR : Mv.joined rp rq (X : Int) = R at *
  generalize hdG : decide (Glue.IsG ((L.set p R).eraseIdx q)) = dG at *
  generalize hV : (if Glue.IsG ((L.set p R).eraseIdx q) then (L.set p R).eraseIdx q else []) = V at *
  have hzero : R = [] → dG = false ∧ V = [] := fun e => by
    subst e
    exact ⟨by rw [← hdG]; exact decide_eq_false hnil, by rw [← hV, if_neg hnil]⟩
  have hyL := hwp.1 y (get_mem hy)
  have hzL := hwq.1 z (get_mem hz)
  have hcy : ∀ W, Below w.heap.size w W → W.cell? ⟨ab, ao + Mv.at_ rp (X : Int), none⟩ = some (.int .i64 y) := fun W hW => by
    obtain ⟨_, _, e1, _, h⟩ := intCells_get? (hrp W hW) hy
    cases e1; exact h
  obtain ⟨A2, hA2⟩ : ∃ A2, (if pc = Mv.at_ rp (X : Int) + 1 then some (⟨ab, ao, none⟩ : Addr) else some ⟨ab, ao + (Mv.at_ rp (X : Int) + 1), none⟩) = A2 := ⟨_, rfl⟩
  have hrA2 := fun W (hW : Below w.heap.size w W) => row_cut (m := Mv.at_ rp (X : Int) + 1) (hrp W hW) (by omega) hpc
  rw [hA2] at hrA2
  have hrT2 := fun W (hW : Below w.heap.size w W) => row_take (m := Mv.at_ rp (X : Int)) (hrp W hW)
  have hl1 : (intCells (rp.take (Mv.at_ rp (X : Int)))).length = Mv.at_ rp (X : Int) := by rw [intCells_len]; simp; omega
  have hl2 : (intCells (rp.drop (Mv.at_ rp (X : Int) + 1))).length = rp.length - (Mv.at_ rp (X : Int) + 1) := by rw [intCells_len]; simp
  generalize Mv.at_ rp (X : Int) = k at *
  have HGc := Lib.hid hGc; have HIn := Lib.hid hIn; have Hones := Lib.hid hones; have Hcount := Lib.hid hcount; have Hcp := Lib.hid hcp; have Hcq := Lib.hid hcq; have Hrq := Lib.hid hrq; have Hside := Lib.hid hside; have HAp := Lib.hid hAp; have HR := Lib.hid hR; have Hzero := Lib.hid hzero; have Hcy := Lib.hid hcy; have HA2 := Lib.hid hA2; have HrA2 := Lib.hid hrA2; have HrT2 := Lib.hid hrT2; have Hl1 := Lib.hid hl1; have Hl2 := Lib.hid hl2; have Hrows := Lib.hid hrows; have HRp := Lib.hid hRp; have Hr24 := Lib.hid hr24; have Hjt := Lib.hid hjt; have Hjk := Lib.hid hjk; have HIi := Lib.hid hIi; have HIq := Lib.hid hIq; have Hwi := Lib.hid hwi; have Hwq := Lib.hid hwq; have Hz := Lib.hid hz; have Ha := Lib.hid ha; have HJR := Lib.hid hJR
  obtain ⟨i0, hi0, hz0, hz1, hz2⟩ := info_ints_parts
  have Hi0 := Lib.hid hi0; have Hz0 := Lib.hid hz0; have Hz1 := Lib.hid hz1; have Hz2 := Lib.hid hz2
  obtain ⟨j0, hj0, hy0, hy1, hy2⟩ := info_int_parts
  have Hj0 := Lib.hid hj0; have Hy0 := Lib.hid hy0; have Hy1 := Lib.hid hy1; have Hy2 := Lib.hid hy2
  have p0 : (0 : Int) ≤ (p : Int) := by omega
  have p1 : (p : Int) < (L.length : Int) := by omega
  have q0 : (0 : Int) ≤ (q : Int) := by omega
  have q1 : (q : Int) < (L.length : Int) := by omega
  have q3 : decide ((q : Int) < 0) = false := decide_eq_false (by omega)
  have x1 : y.natAbs = X := by omega
  have j1 : k ≤ rp.length := by omega
  have j2 : (k : Int) ≤ (rp.length : Int) := by omega
  have j3 : (0 : Int) ≤ (k : Int) := by omega
  have j4 : k ≤ pc := by omega
  have j5 : (k : Int) ≤ (pc : Int) := by omega
  have j6 : (k : Int) < (rp.length : Int) := by omega
  have j7 : k + 1 ≤ rp.length := by omega
  have j8 : (k : Int) + 1 ≤ (rp.length : Int) := by omega
  have j9 : (0 : Int) ≤ (k : Int) + 1 := by omega
  have j10 : IntKind.i64.wrap ((k : Int) + 1) = (k : Int) + 1 := wrap_small (by omega) (by omega)
  have j11 : ((k : Int) + 1).toNat = k + 1 := by omega
  have Hx1 := Lib.hid x1; have HyX := Lib.hid hyX; have HzX := Lib.hid hzX
  clear hGc hIn hones hcount hcp hcq hrq hrp hrp0 hside hAp hR hzero hcy hA2 hrA2 hrT2 hl1 hl2 hrows hRp hr24 hjt hjk hIi hIq hwi hwq hz ha hJR hy hyX hzX x1 hdG hV hnil hf hv1 hv2 hG htot hwp hgp hgq hIp hi0 hz0 hz1 hz2 hj0 hy0 hy1 hy2 hcq1 hyL hzL
  go_enter Try.func11, Try.ntmps11
  go_wp2_with fail
  refine HGc.out.mono ?_
  rintro e w1 ⟨rfl, hb1⟩
  have Hb1 := Lib.hid hb1; clear hb1
  go_wp2_with fail
  refine (HIn.out _).mono ?_
  rintro e w9 ⟨rfl, hw9⟩
  rw [hw9]; clear hw9 w9
  go_wp2
  go_loopw [6, 7, 8] (fun pvv qvv kv wr => wr = w1 ∧ ∃ i : Nat, i ≤ L.length ∧ kv = .int .i64 i ∧ pvv = .int .i64 (Mv.pv (Mv.onesTo L X i)) ∧ qvv = .int .i64 (Mv.qv (Mv.onesTo L X i))) (fun _ _ kv _ => L.length - (intOf kv).toNat)
  case atStart => exact ⟨rfl, 0, by omega, rfl, rfl, rfl⟩
  case round =>
    obtain ⟨hwr, i, hi, rfl, rfl, rfl⟩ := hrel
    by_cases hlt : i < L.length
    · obtain ⟨r, hr⟩ := get_some hlt
      obtain ⟨_, _, ri, rj, e1, _, hcr, hrr⟩ := Ha.out.cell hr
      cases e1
      have hcell : wr.cell? ⟨b, o + i, none⟩ = some (.slice ri r.length rj) := by rw [hwr]; exact hcr w1 Hb1.out
      have hcn := Hcount.out wr (by rw [hwr]; exact Hb1.out) i r hr ri rj (by rw [hwr]; exact hrr w1 Hb1.out)
      have h1o := fun h => Mv.onesTo_in (X := X) hr h
      have h0o := fun h => Mv.onesTo_out (X := X) hr h
      have Hwr := Lib.hid hwr
      have hpv1 := Mv.pv_later (F := Mv.onesTo L X i)
      have hpv2 := Mv.pv_pos (F := Mv.onesTo L X i)
      have hqv1 := Mv.qv_later (F := Mv.onesTo L X i)
      generalize hcv : Mv.cnt r X = cv at *
      have Hcn := Lib.hid hcn
      clear hwr hcr hrr hcn hr hcv
      by_cases hc1 : cv = 1
      · have hst := h1o hc1
        subst hc1
        by_cases hF : Mv.onesTo L X i = []
        · rw [hF] at hst ⊢
          have Hst := Lib.hid hst
          clear hst h1o h0o hpv1 hpv2 hqv1
          have hF' := Lib.hid hF
          clear hF
          rw [show Mv.pv [] = -1 from rfl]
          go_wp2_with fail
          refine Hcn.out.mono ?_
          rintro e w9 ⟨rfl, hw9⟩
          rw [hw9]; clear hw9 w9
          go_wp2
          go_roundw
          case rel => exact ⟨Hwr.out, i + 1, by omega, by go_num, by rw [Hst.out]; rfl, by rw [Hst.out]; rfl⟩
          case measure => simp [intOf]; omega
        · have hge := hpv2 hF
          have e1 := hpv1 hF i
          have e2 := hqv1 hF i
          have Hst := Lib.hid hst; have He1 := Lib.hid e1; have He2 := Lib.hid e2
          generalize hPV : Mv.pv (Mv.onesTo L X i) = PV at *
          have HPV := Lib.hid hPV
          have dge : decide (PV < 0) = false := decide_eq_false (by omega)
          clear hst h1o h0o hpv1 hpv2 hqv1 e1 e2 hPV hF
          go_wp2_with fail
          refine Hcn.out.mono ?_
          rintro e w9 ⟨rfl, hw9⟩
          rw [hw9]; clear hw9 w9
          go_wp2
          go_roundw
          case rel => exact ⟨Hwr.out, i + 1, by omega, by go_num, by rw [Hst.out, He1.out], by rw [Hst.out, He2.out]⟩
          case measure => simp [intOf]; omega
      · have Hst := Lib.hid (h0o hc1)
        have b1 : ((cv : Int) == 1) = false := beq_eq_false_iff_ne.2 (by omega)
        clear h1o h0o hpv1 hpv2 hqv1
        go_wp2_with fail
        refine Hcn.out.mono ?_
        rintro e w9 ⟨rfl, hw9⟩
        rw [hw9]; clear hw9 w9
        go_wp2
        go_roundw
        case rel => exact ⟨Hwr.out, i + 1, by omega, by go_num, by rw [Hst.out], by rw [Hst.out]⟩
        case measure => simp [intOf]; omega
    · obtain rfl : i = L.length := by omega
      rw [Hones.out, show Mv.pv [p, q] = (p : Int) from rfl, show Mv.qv [p, q] = (q : Int) from rfl, hwr]
      have hcp1 := Hcp.out w1 Hb1.out
      have hcqA := Hcq.out (w1.alloc (.cells #[] 3)) (Hb1.out.alloc Hb1.out.size _)
      have HrqA := Lib.hid (Hrq.out (w1.alloc (.cells #[] 3)) (Hb1.out.alloc Hb1.out.size _))
      have Hmk := Lib.hid (own_made (w := w1) rfl)
      have hc1 : 0 + rq.length ≤ maxLen := by unfold maxLen; omega
      have hc2 : (0 + rq.length) * 8 ≤ 140737488355328 := by omega
      clear hwr
      go_wp2_with (at_builtin; refine append_row rfl (.tmp 51) (.tmp 55) 42 rfl w1.heap.size 3 j0 _ 8 Try.underlying42 Hj0.out Hy0.out Hy1.out Hy2.out (by rfl) _ 0 (intCells []) rfl Hmk.out _ rq.length _ (intCells rq) rfl HrqA.out (intCells_len _) (intCells_one _) hc1 hc2 (by simp) ?_; intro v2 w2 hown2 hg2; (try rw [Nat.zero_add] at hown2); have hb2 := Below.grown ((Below.refl w1.heap.size w1).alloc (Nat.le_refl _) _) hg2 (by simp) (fun k hk => by injection hk with hk; exact Nat.le_of_eq hk); have hfr2 := own_fresh hown2 (by simp [intCells_len]); obtain ⟨ba, bc, rfl, hbc, hbf⟩ := hfr2; have Hb2 := Lib.hid (Hb1.out.trans (hb2.mono Hb1.out.size)); have Hbrow := Lib.hid hbf.row; have hbc' := hbc; clear hown2 hg2 hb2 hbf hbc)
      go_wp2_with fail
      refine (HAp.out w2 Hb2.out).mono ?_
      rintro e w9 ⟨rfl, hw9⟩
      rw [hw9]; clear hw9 w9
      have hbrow : RowAt w2 ba (intCells rq) := Hbrow.out
      obtain ⟨bb, bo, rfl⟩ := row_some hbrow (by omega)
      have HAq := Lib.hid (fun W (hW : Below w2.heap.size w2 W) => by
        have h := spec_l5At (some ⟨bb, bo, none⟩) bc rq (X : Int) W (Hbrow.out.below hW) (by omega) Hwq.out.1
        rwa [Mv.idxOf_in HIq.out] at h)
      obtain ⟨_, _, e1, _, hcz⟩ := intCells_get? hbrow Hz.out
      cases e1
      have hcy2 := Hcy.out w2 Hb2.out
      generalize hkq' : Mv.at_ rq (X : Int) = kq at *
      have Hkq := Lib.hid hkq'
      have z1 : (0 : Int) ≤ (kq : Int) := by omega
      have z2 : (kq : Int) < (rq.length : Int) := by omega
      clear hbrow hkq' hcp1 hcqA
      by_cases hzy : z = y
      · have hin := Hside.out.2 hzy
        have bzy : (z == y) = true := beq_iff_eq.2 hzy
        have hj := Hjt.out hin
        have hInv := fun W (hW : Below w2.heap.size w2 W) => spec_l2Inverse (some ⟨bb, bo, none⟩) bc rq W (Hbrow.out.below hW) (by omega) Hwq.out.1
        have HInv := Lib.hid hInv
        have hni := Word.inv_len rq
        have Hwn := Hwi; have HIn2 := HIi
        generalize hinvn : Word.inv rq = n at *
        have hn24 : n.length ≤ 24 := by omega
        have Hzy := Lib.hid hzy; have Hj := Lib.hid hj
        clear hin hj hInv hzy hni hinvn
        go_wp2
        go_quiet (first | exact Calls.quiet_of_same (HAq.out _ (below_drewN (Below.refl _ _) _)) | exact Calls.quiet_of_same (HAq.out _ (Below.refl _ _)))
        have HbQ := Lib.hid (below_drewN (Below.refl w2.heap.size w2) nq)
        generalize w2.drewN nq = w3 at *
        go_wp2_with fail
        refine (HInv.out w3 HbQ.out).mono ?_
        rintro e w4 ⟨na, rc, rfl, hrc, _, hnf, hb4⟩
        have Hb4 := Lib.hid ((Hb2.out.trans (HbQ.out.mono Hb2.out.size)).trans (hb4.mono (Nat.le_trans Hb2.out.size HbQ.out.size)))
        have Hrow := Lib.hid hnf.row
        clear hnf hb4
        obtain ⟨nb, no, e1⟩ := row_some Hrow.out (by have := Mv.at_lt.2 HIn2.out; omega)
        subst e1
        have hk2 := Mv.at_lt.2 HIn2.out
        have hS2 := spec_l5At (some ⟨nb, no, none⟩) rc n (X : Int) w4 Hrow.out (by omega) Hwn.out.1
        rw [Mv.idxOf_in HIn2.out] at hS2
        obtain ⟨A1, hA1⟩ : ∃ A1, (if rc = Mv.at_ n (X : Int) + 1 then some (⟨nb, no, none⟩ : Addr) else some ⟨nb, no + (Mv.at_ n (X : Int) + 1), none⟩) = A1 := ⟨_, rfl⟩
        have hrA1 := row_cut (m := Mv.at_ n (X : Int) + 1) Hrow.out (by omega) hrc
        rw [hA1] at hrA1
        have hrT1 := row_take (m := Mv.at_ n (X : Int)) Hrow.out
        have hl3 : (intCells (n.take (Mv.at_ n (X : Int)))).length = Mv.at_ n (X : Int) := by rw [intCells_len]; simp; omega
        have hl4 : (intCells (n.drop (Mv.at_ n (X : Int) + 1))).length = n.length - (Mv.at_ n (X : Int) + 1) := by rw [intCells_len]; simp
        have happ : intCells [] ++ intCells (rp.take k) ++ intCells (n.drop (Mv.at_ n (X : Int) + 1)) ++ intCells (n.take (Mv.at_ n (X : Int))) ++ intCells (rp.drop (k + 1)) = intCells R := by rw [Hj.out]; simp [intCells]
        have hsum : k + (n.length - (Mv.at_ n (X : Int) + 1)) + Mv.at_ n (X : Int) + (rp.length - (k + 1)) = R.length := by
          have := congrArg List.length happ
          simp only [List.length_append, hl3, hl4, Hl1.out, Hl2.out] at this
          rw [intCells_len] at this
          simpa [intCells] using this
        obtain ⟨r0, hr0⟩ : ∃ r0, R.length = r0 := ⟨_, rfl⟩
        rw [hr0] at hsum
        generalize Mv.at_ n (X : Int) = h at *
        have HS2 := Lib.hid hS2; have HrA1 := Lib.hid hrA1; have HrT1 := Lib.hid hrT1; have Hl3 := Lib.hid hl3; have Hl4 := Lib.hid hl4; have Happ := Lib.hid happ; have Hsum := Lib.hid hsum; have Hr0 := Lib.hid hr0
        have i1 : h ≤ n.length := by omega
        have i2 : (h : Int) ≤ (n.length : Int) := by omega
        have i3 : (0 : Int) ≤ (h : Int) := by omega
        have i4 : h ≤ rc := by omega
        have i5 : (h : Int) ≤ (rc : Int) := by omega
        have i7 : h + 1 ≤ n.length := by omega
        have i8 : (h : Int) + 1 ≤ (n.length : Int) := by omega
        have i9 : (0 : Int) ≤ (h : Int) + 1 := by omega
        have i10 : IntKind.i64.wrap ((h : Int) + 1) = (h : Int) + 1 := wrap_small (by omega) (by omega)
        have i11 : ((h : Int) + 1).toNat = h + 1 := by omega
        have a1 : 0 + k ≤ maxLen := by unfold maxLen; omega
        have a2 : (0 + k) * 8 ≤ 140737488355328 := by omega
        have a3 : k + (n.length - (h + 1)) ≤ maxLen := by unfold maxLen; omega
        have a4 : (k + (n.length - (h + 1))) * 8 ≤ 140737488355328 := by omega
        have a5 : k + (n.length - (h + 1)) + h ≤ maxLen := by unfold maxLen; omega
        have a6 : (k + (n.length - (h + 1)) + h) * 8 ≤ 140737488355328 := by omega
        have a7 : k + (n.length - (h + 1)) + h + (rp.length - (k + 1)) ≤ maxLen := by unfold maxLen; omega
        have a8 : (k + (n.length - (h + 1)) + h + (rp.length - (k + 1))) * 8 ≤ 140737488355328 := by omega
        have r48 : r0 ≤ 48 := by omega
        clear hS2 hrA1 hrT1 hl3 hl4 happ hsum hr0
        go_wp2_with fail
        refine HS2.out.mono ?_
        rintro e w9 ⟨rfl, hw9⟩
        rw [hw9]; clear hw9 w9
        have HbM := Lib.hid (Hb4.out.trans ((below_made1 w4).mono Hb4.out.size))
        have HMk := Lib.hid (own_made1 w4)
        have HRt := Lib.hid (HrT2.out _ HbM.out)
        have hA1' := hA1
        have hA2 := HA2.out
        go_wp2
        go_region_law (first
          | (refine step_append_row rfl (.tmp 76) (.tmp 79) 42 rfl w4.heap.size 3 j0 _ 8 Try.underlying42 Hj0.out Hy0.out Hy1.out Hy2.out (by rfl) _ 0 (intCells []) (by rfl) HMk.out _ k _ (intCells (rp.take k)) (by rfl) HRt.out Hl1.out (intCells_one _) a1 a2 (by simp) ?_; intro v5 w5 hown5 hg5; (try rw [Nat.zero_add] at hown5); have hb5 := Below.grown (below_made1 w4) hg5 (by simp) (fun k hk => by injection hk with hk; exact Nat.le_of_eq hk); obtain ⟨av5, cv5, rfl⟩ := own_len hown5)
          | (refine step_append_row rfl (.tmp 80) (.tmp 84) 42 rfl w4.heap.size 3 j0 _ 8 Try.underlying42 Hj0.out Hy0.out Hy1.out Hy2.out (by rfl) _ _ _ (by rfl) hown5 _ (n.length - (h + 1)) _ (intCells (n.drop (h + 1))) (by rfl) (HrA1.out.below hb5) Hl4.out (intCells_one _) a3 a4 hb5.size ?_; intro v6 w6 hown6 hg6; have hb6 := Below.grown hb5 hg6 hb5.size (fun k hk => (hown5.lt k hk).1); obtain ⟨av6, cv6, rfl⟩ := own_len hown6)
          | (refine step_append_row rfl (.tmp 85) (.tmp 88) 42 rfl w4.heap.size 3 j0 _ 8 Try.underlying42 Hj0.out Hy0.out Hy1.out Hy2.out (by rfl) _ _ _ (by rfl) hown6 _ h _ (intCells (n.take h)) (by rfl) (HrT1.out.below hb6) Hl3.out (intCells_one _) a5 a6 hb6.size ?_; intro v7 w7 hown7 hg7; have hb7 := Below.grown hb6 hg7 hb6.size (fun k hk => (hown6.lt k hk).1); obtain ⟨av7, cv7, rfl⟩ := own_len hown7)
          | (refine step_append_row rfl (.tmp 89) (.tmp 93) 42 rfl w4.heap.size 3 j0 _ 8 Try.underlying42 Hj0.out Hy0.out Hy1.out Hy2.out (by rfl) _ _ _ (by rfl) hown7 _ (rp.length - (k + 1)) _ (intCells (rp.drop (k + 1))) (by rfl) (HrA2.out _ (Hb4.out.trans (hb7.mono Hb4.out.size))) Hl2.out (intCells_one _) a7 a8 hb7.size ?_; intro v8 w8 hown8 hg8; have hb8 := Below.grown hb7 hg8 hb7.size (fun k hk => (hown7.lt k hk).1); rw [Happ.out, Hsum.out] at hown8; have hfr8 := own_fresh hown8 (by rw [intCells_len]; exact Hr0.out); obtain ⟨ta, tc, rfl, htc, hf8⟩ := hfr8; have Hb8 := Lib.hid (Hb4.out.trans (hb8.mono Hb4.out.size)); have Hf8 := Lib.hid ((RowIn.of_fresh hf8).mono Hb4.out.size (Nat.le_refl _)); have Htc := Lib.hid htc; clear hown5 hown6 hown7 hown8 hg5 hg6 hg7 hg8 hf8 htc hb5 hb6 hb7 hb8))
        all_goals
          have Hre := Lib.hid (show r0 = 0 → R = [] from fun e => List.eq_nil_of_length_eq_zero (by rw [Hr0.out]; exact e))
          by_cases hr00 : r0 = 0
          · have hRn := Hre.out hr00
            have hz2 := Hzero.out hRn
            have Hz2 := Lib.hid hz2
            have b0 : ((r0 : Int) == 0) = true := beq_iff_eq.2 (by omega)
            have Hr00 := Lib.hid hr00
            clear hRn hz2 hr00
            go_wp2
            go_ret2
            rw [Hz2.out.1, Hz2.out.2]
            exact GivesRows2.none (Hb8.out.alloc Hb8.out.size _) (Nat.zero_le _)
          · have b0 : ((r0 : Int) == 0) = false := beq_eq_false_iff_ne.2 (by omega)
            have hN8 := Hb8.out.size
            have Hmd := Lib.hid (made_rows (w := w8) rfl)
            clear hA1 hA1' hA2
            go_wp2
            go_loopw [14, 15] (fun ov kv wr => ∃ i : Nat, i ≤ L.length ∧ kv = .int .i64 i ∧ Hid (Below w.heap.size w wr ∧ Below w8.heap.size w8 wr) ∧ ∃ hs : List Hd, hs.length ≤ 4 ∧ wr.ownsRow w8.heap.size 42 1 ov hs.length (hdCells hs) ∧ Hid (hs.map Hd.l = Mv.sel (L.set p R) q i ∧ (∀ h ∈ hs, RowIn wr (if i ≤ p then w8.heap.size else w.heap.size) wr.heap.size 3 h.a (intCells h.l)) ∧ Apts hs)) (fun _ kv _ => L.length - (intOf kv).toNat)
            case atStart => exact ⟨0, by omega, rfl, Lib.hid ⟨Hb8.out.alloc hN8 _, (Below.refl _ _).alloc (Nat.le_refl _) _⟩, [], by simp, Hmd.out, Lib.hid ⟨by rw [Mv.sel_zero]; rfl, fun _ h => (by cases h), Apts.nil⟩⟩
            case round =>
              obtain ⟨i, hi, rfl, hb, hs, hs4, hown, hfx⟩ := hrel
              have hNw : w.heap.size ≤ wr.heap.size := hb.out.1.size
              have h8w : w8.heap.size ≤ wr.heap.size := hb.out.2.size
              have Hsl := Lib.hid (show (Mv.sel (L.set p R) q (i + 1)).length ≤ 4 from Nat.le_trans (Mv.sel_len _ _ _) (by rw [List.length_set]; exact hln))
              have c1 : hs.length + 1 ≤ maxLen := by unfold maxLen; omega
              have c2 : (hs.length + 1) * 24 ≤ 140737488355328 := by omega
              by_cases hlt : i < L.length
              · by_cases hip : i = p
                · subst hip
                  have hiq : i ≠ q := by omega
                  have Hst := Lib.hid (Mv.sel_step HRp.out hiq)
                  have Hown := Lib.hid hown
                  obtain ⟨av, cv, rfl⟩ := own_len hown
                  clear hown hiq
                  go_wp2_with (at_builtin; refine append_one rfl (.tmp 109) (.tmp 111) 24 rfl w8.heap.size 42 i0 _ 24 Try.underlying24 Hi0.out Hz0.out Hz1.out Hz2.out (by rfl) _ _ _ rfl Hown.out (by rfl) _ rfl c1 c2 h8w ?_; intro v9 w9 hown9 hg9 _)
                  go_roundw
                  case rel =>
                    have hfx1 := hfx.out.2.1
                    rw [if_pos (Nat.le_refl _)] at hfx1
                    have hst := grid_old (c := tc) hfx1 hfx.out.2.2 Hown.out hN8 h8w (Hf8.out.below hb.out.2) hg9 (by rw [Hr0.out]; exact Htc.out)
                    have hmap : (hs ++ [(⟨ta, tc, R⟩ : Hd)]).map Hd.l = Mv.sel (L.set i R) q (i + 1) := by rw [List.map_append, hfx.out.1, Hst.out]; rfl
                    refine ⟨i + 1, by omega, by go_num, Lib.hid ⟨Below.grown (hb.out.1.alloc hNw _) hg9 (by simp; omega) (fun k hk => by have := (Hown.out.lt k hk).1; omega), Below.grown (hb.out.2.alloc h8w _) hg9 (by simp; omega) (fun k hk => (Hown.out.lt k hk).1)⟩, hs ++ [⟨ta, tc, R⟩], ?_, ?_, Lib.hid ⟨hmap, ?_, hst.2⟩⟩
                    · have := congrArg List.length hmap
                      rw [List.length_map] at this
                      rw [this]; exact Hsl.out
                    · rw [← hdCells_snoc, List.length_append]; rw [← Hr0.out] at hown9; exact hown9
                    · rw [if_neg (by omega)]; exact hst.1
                  case measure => simp [intOf]; omega
                · by_cases hiq : i = q
                  · subst hiq
                    have Hst := Lib.hid (Mv.sel_skip (M := L.set p R) (q := i) (by rw [List.length_set]; exact hlt))
                    have Hown := Lib.hid hown
                    obtain ⟨av, cv, rfl⟩ := own_len hown
                    have bq : ((i : Int) != (i : Int)) = false := by simp
                    clear hown
                    go_wp2
                    go_roundw
                    case rel => exact ⟨i + 1, by omega, by go_num, hb, hs, hs4, Hown.out, Lib.hid ⟨by rw [hfx.out.1, Hst.out], by have := hfx.out.2.1; rw [if_neg (by omega)] at this ⊢; exact this, hfx.out.2.2⟩⟩
                    case measure => simp [intOf]; omega
                  · obtain ⟨r, hr⟩ := get_some (l := L.set p R) (i := i) (by rw [List.length_set]; exact hlt)
                    have hrL := Hrows.out i r hr hip
                    have hr24 := Hr24.out i r hrL
                    have Hst := Lib.hid (Mv.sel_step hr hiq)
                    obtain ⟨_, _, ri, rj, e1, _, hcr, hrr⟩ := Ha.out.cell hrL
                    cases e1
                    have hcellA := hcr (wr.alloc (.cells #[] 3)) (hb.out.1.alloc hNw _)
                    have HrrA := Lib.hid (hrr (wr.alloc (.cells #[] 3)) (hb.out.1.alloc hNw _))
                    have Hmk2 := Lib.hid (own_made (w := wr) rfl)
                    have Hown := Lib.hid hown
                    have d1 : 0 + r.length ≤ maxLen := by unfold maxLen; omega
                    have d2 : (0 + r.length) * 8 ≤ 140737488355328 := by omega
                    have bp : ((i : Int) == (p : Int)) = false := beq_eq_false_iff_ne.2 (by omega)
                    have bq : ((i : Int) != (q : Int)) = true := by simp; omega
                    obtain ⟨av, cv, rfl⟩ := own_len hown
                    clear hown hr hrL hcr hrr
                    go_wp2_with (at_builtin; first
                      | (refine append_row rfl (.tmp 117) (.tmp 121) 42 rfl wr.heap.size 3 j0 _ 8 Try.underlying42 Hj0.out Hy0.out Hy1.out Hy2.out (by rfl) _ 0 (intCells []) rfl Hmk2.out _ r.length _ (intCells r) rfl HrrA.out (intCells_len _) (intCells_one _) d1 d2 (by simp) ?_; intro v9 w9 hown9 hg9; (try rw [Nat.zero_add] at hown9); have hb9 := Below.grown ((Below.refl wr.heap.size wr).alloc (Nat.le_refl _) _) hg9 (by simp) (fun k hk => by injection hk with hk; exact Nat.le_of_eq hk); have hfr9 := own_fresh hown9 (by simp [intCells_len]); obtain ⟨sa, sc, rfl, hsc, hf9⟩ := hfr9; have Hb9 := Lib.hid hb9; have Hf9 := Lib.hid hf9; have Hsc := Lib.hid hsc; have Hown9 := Lib.hid (own_keep Hown.out hb9 (fun k hk => (Hown.out.lt k hk).2)); have hbase9 := Nat.le_trans h8w hb9.size; clear hown9 hg9 hb9 hf9 hsc)
                      | (refine append_one rfl (.tmp 116) (.tmp 123) 24 rfl w8.heap.size 42 i0 _ 24 Try.underlying24 Hi0.out Hz0.out Hz1.out Hz2.out (by rfl) _ _ _ rfl Hown9.out (by rfl) _ rfl c1 c2 hbase9 ?_; intro v10 w10 hown10 hg10 _))
                    go_roundw
                    case rel =>
                      have hlo : (if i + 1 ≤ p then w8.heap.size else w.heap.size) = (if i ≤ p then w8.heap.size else w.heap.size) := by
                        by_cases h : i ≤ p
                        · rw [if_pos h, if_pos (by omega)]
                        · rw [if_neg h, if_neg (by omega)]
                      have hlow : (if i ≤ p then w8.heap.size else w.heap.size) ≤ w8.heap.size := by split <;> omega
                      have hst := grid_step (c := sc) hfx.out.2.1 hfx.out.2.2 (own_mono Hown9.out hlow) (by omega) Hf9.out Hb9.out hg10 Hsc.out
                      have hmap : (hs ++ [(⟨sa, sc, r⟩ : Hd)]).map Hd.l = Mv.sel (L.set p R) q (i + 1) := by rw [List.map_append, hfx.out.1, Hst.out]; rfl
                      refine ⟨i + 1, by omega, by go_num, Lib.hid ⟨Below.grown ((hb.out.1.trans (Hb9.out.mono hNw)).alloc (by omega) _) hg10 (by simp; omega) (fun k hk => by have := (Hown9.out.lt k hk).1; omega), Below.grown ((hb.out.2.trans (Hb9.out.mono h8w)).alloc hbase9 _) hg10 (by simp; omega) (fun k hk => (Hown9.out.lt k hk).1)⟩, hs ++ [⟨sa, sc, r⟩], ?_, ?_, Lib.hid ⟨hmap, ?_, hst.2⟩⟩
                      · have := congrArg List.length hmap
                        rw [List.length_map] at this
                        rw [this]; exact Hsl.out
                      · rw [← hdCells_snoc, List.length_append]; exact hown10
                      · rw [hlo]; exact hst.1
                    case measure => simp [intOf]; omega
              · obtain rfl : i = L.length := by omega
                have h1 := hfx.out.1
                rw [show Mv.sel (L.set p R) q L.length = (L.set p R).eraseIdx q from by have := Mv.sel_all (L.set p R) q; rwa [List.length_set] at this] at h1
                have h2 := hfx.out.2.1
                rw [if_neg (by omega)] at h2
                have hlen : hs.length = ((L.set p R).eraseIdx q).length := by rw [← h1]; simp
                have Hown := Lib.hid hown
                obtain ⟨av, cv, rfl⟩ := own_len hown
                have Hheld := Lib.hid (show Held wr w.heap.size (.slice av hs.length cv) ((L.set p R).eraseIdx q) from ⟨hs, h1, by rw [← hlen]; exact own_mono Hown.out hN8, h2, hfx.out.2.2⟩)
                clear h1 h2 hlen hown
                go_wp2_with fail
                refine (HR.out _ wr Hheld.out hNw).mono ?_
                rintro e w10 ⟨v10, rfl, hh10, hb10⟩
                have Hh10 := Lib.hid hh10; have Hb10 := Lib.hid (hb.out.1.trans (hb10.mono hNw))
                clear hh10 hb10
                go_wp2
                go_ret2
                exact Hh10.out.gives Hb10.out
      · have hin : y ∉ rq := fun h => hzy (Hside.out.1 h)
        have bzy : (z == y) = false := beq_eq_false_iff_ne.2 hzy
        have hj := Hjk.out hin
        have Hwn := Hwq; have HIn2 := HIq
        rw [← Hkq.out] at hj
        have Hj := Lib.hid hj
        have hrc := hbc'
        have hn24 := hm24
        have Hzy := Lib.hid hzy
        clear hin hj hzy
        go_wp2
        go_quiet (first | exact Calls.quiet_of_same (HAq.out _ (below_drewN (Below.refl _ _) _)) | exact Calls.quiet_of_same (HAq.out _ (Below.refl _ _)))
        have Hb4 := Lib.hid (below_drewN Hb2.out nq)
        have Hrow := Lib.hid (Hbrow.out.below (below_drewN (Below.refl w2.heap.size w2) nq))
        generalize w2.drewN nq = w4 at *
        have hk2 := Mv.at_lt.2 HIn2.out
        have hS2 := spec_l5At (some ⟨bb, bo, none⟩) bc rq (X : Int) w4 Hrow.out (by omega) Hwn.out.1
        rw [Mv.idxOf_in HIn2.out] at hS2
        obtain ⟨A1, hA1⟩ : ∃ A1, (if bc = Mv.at_ rq (X : Int) + 1 then some (⟨bb, bo, none⟩ : Addr) else some ⟨bb, bo + (Mv.at_ rq (X : Int) + 1), none⟩) = A1 := ⟨_, rfl⟩
        have hrA1 := row_cut (m := Mv.at_ rq (X : Int) + 1) Hrow.out (by omega) hrc
        rw [hA1] at hrA1
        have hrT1 := row_take (m := Mv.at_ rq (X : Int)) Hrow.out
        have hl3 : (intCells (rq.take (Mv.at_ rq (X : Int)))).length = Mv.at_ rq (X : Int) := by rw [intCells_len]; simp; omega
        have hl4 : (intCells (rq.drop (Mv.at_ rq (X : Int) + 1))).length = rq.length - (Mv.at_ rq (X : Int) + 1) := by rw [intCells_len]; simp
        have happ : intCells [] ++ intCells (rp.take k) ++ intCells (rq.drop (Mv.at_ rq (X : Int) + 1)) ++ intCells (rq.take (Mv.at_ rq (X : Int))) ++ intCells (rp.drop (k + 1)) = intCells R := by rw [Hj.out]; simp [intCells]
        have hsum : k + (rq.length - (Mv.at_ rq (X : Int) + 1)) + Mv.at_ rq (X : Int) + (rp.length - (k + 1)) = R.length := by
          have := congrArg List.length happ
          simp only [List.length_append, hl3, hl4, Hl1.out, Hl2.out] at this
          rw [intCells_len] at this
          simpa [intCells] using this
        obtain ⟨r0, hr0⟩ : ∃ r0, R.length = r0 := ⟨_, rfl⟩
        rw [hr0] at hsum
        generalize Mv.at_ rq (X : Int) = h at *
        have HS2 := Lib.hid hS2; have HrA1 := Lib.hid hrA1; have HrT1 := Lib.hid hrT1; have Hl3 := Lib.hid hl3; have Hl4 := Lib.hid hl4; have Happ := Lib.hid happ; have Hsum := Lib.hid hsum; have Hr0 := Lib.hid hr0
        have i1 : h ≤ rq.length := by omega
        have i2 : (h : Int) ≤ (rq.length : Int) := by omega
        have i3 : (0 : Int) ≤ (h : Int) := by omega
        have i4 : h ≤ bc := by omega
        have i5 : (h : Int) ≤ (bc : Int) := by omega
        have i7 : h + 1 ≤ rq.length := by omega
        have i8 : (h : Int) + 1 ≤ (rq.length : Int) := by omega
        have i9 : (0 : Int) ≤ (h : Int) + 1 := by omega
        have i10 : IntKind.i64.wrap ((h : Int) + 1) = (h : Int) + 1 := wrap_small (by omega) (by omega)
        have i11 : ((h : Int) + 1).toNat = h + 1 := by omega
        have a1 : 0 + k ≤ maxLen := by unfold maxLen; omega
        have a2 : (0 + k) * 8 ≤ 140737488355328 := by omega
        have a3 : k + (rq.length - (h + 1)) ≤ maxLen := by unfold maxLen; omega
        have a4 : (k + (rq.length - (h + 1))) * 8 ≤ 140737488355328 := by omega
        have a5 : k + (rq.length - (h + 1)) + h ≤ maxLen := by unfold maxLen; omega
        have a6 : (k + (rq.length - (h + 1)) + h) * 8 ≤ 140737488355328 := by omega
        have a7 : k + (rq.length - (h + 1)) + h + (rp.length - (k + 1)) ≤ maxLen := by unfold maxLen; omega
        have a8 : (k + (rq.length - (h + 1)) + h + (rp.length - (k + 1))) * 8 ≤ 140737488355328 := by omega
        have r48 : r0 ≤ 48 := by omega
        clear hS2 hrA1 hrT1 hl3 hl4 happ hsum hr0
        go_wp2_with fail
        refine HS2.out.mono ?_
        rintro e w9 ⟨rfl, hw9⟩
        rw [hw9]; clear hw9 w9
        have HbM := Lib.hid (Hb4.out.trans ((below_made1 w4).mono Hb4.out.size))
        have HMk := Lib.hid (own_made1 w4)
        have HRt := Lib.hid (HrT2.out _ HbM.out)
        have hA1' := hA1
        have hA2 := HA2.out
        go_wp2
        go_region_law (first
          | (refine step_append_row rfl (.tmp 76) (.tmp 79) 42 rfl w4.heap.size 3 j0 _ 8 Try.underlying42 Hj0.out Hy0.out Hy1.out Hy2.out (by rfl) _ 0 (intCells []) (by rfl) HMk.out _ k _ (intCells (rp.take k)) (by rfl) HRt.out Hl1.out (intCells_one _) a1 a2 (by simp) ?_; intro v5 w5 hown5 hg5; (try rw [Nat.zero_add] at hown5); have hb5 := Below.grown (below_made1 w4) hg5 (by simp) (fun k hk => by injection hk with hk; exact Nat.le_of_eq hk); obtain ⟨av5, cv5, rfl⟩ := own_len hown5)
          | (refine step_append_row rfl (.tmp 80) (.tmp 84) 42 rfl w4.heap.size 3 j0 _ 8 Try.underlying42 Hj0.out Hy0.out Hy1.out Hy2.out (by rfl) _ _ _ (by rfl) hown5 _ (rq.length - (h + 1)) _ (intCells (rq.drop (h + 1))) (by rfl) (HrA1.out.below hb5) Hl4.out (intCells_one _) a3 a4 hb5.size ?_; intro v6 w6 hown6 hg6; have hb6 := Below.grown hb5 hg6 hb5.size (fun k hk => (hown5.lt k hk).1); obtain ⟨av6, cv6, rfl⟩ := own_len hown6)
          | (refine step_append_row rfl (.tmp 85) (.tmp 88) 42 rfl w4.heap.size 3 j0 _ 8 Try.underlying42 Hj0.out Hy0.out Hy1.out Hy2.out (by rfl) _ _ _ (by rfl) hown6 _ h _ (intCells (rq.take h)) (by rfl) (HrT1.out.below hb6) Hl3.out (intCells_one _) a5 a6 hb6.size ?_; intro v7 w7 hown7 hg7; have hb7 := Below.grown hb6 hg7 hb6.size (fun k hk => (hown6.lt k hk).1); obtain ⟨av7, cv7, rfl⟩ := own_len hown7)
          | (refine step_append_row rfl (.tmp 89) (.tmp 93) 42 rfl w4.heap.size 3 j0 _ 8 Try.underlying42 Hj0.out Hy0.out Hy1.out Hy2.out (by rfl) _ _ _ (by rfl) hown7 _ (rp.length - (k + 1)) _ (intCells (rp.drop (k + 1))) (by rfl) (HrA2.out _ (Hb4.out.trans (hb7.mono Hb4.out.size))) Hl2.out (intCells_one _) a7 a8 hb7.size ?_; intro v8 w8 hown8 hg8; have hb8 := Below.grown hb7 hg8 hb7.size (fun k hk => (hown7.lt k hk).1); rw [Happ.out, Hsum.out] at hown8; have hfr8 := own_fresh hown8 (by rw [intCells_len]; exact Hr0.out); obtain ⟨ta, tc, rfl, htc, hf8⟩ := hfr8; have Hb8 := Lib.hid (Hb4.out.trans (hb8.mono Hb4.out.size)); have Hf8 := Lib.hid ((RowIn.of_fresh hf8).mono Hb4.out.size (Nat.le_refl _)); have Htc := Lib.hid htc; clear hown5 hown6 hown7 hown8 hg5 hg6 hg7 hg8 hf8 htc hb5 hb6 hb7 hb8))
        all_goals
          have Hre := Lib.hid (show r0 = 0 → R = [] from fun e => List.eq_nil_of_length_eq_zero (by rw [Hr0.out]; exact e))
          by_cases hr00 : r0 = 0
          · have hRn := Hre.out hr00
            have hz2 := Hzero.out hRn
            have Hz2 := Lib.hid hz2
            have b0 : ((r0 : Int) == 0) = true := beq_iff_eq.2 (by omega)
            have Hr00 := Lib.hid hr00
            clear hRn hz2 hr00
            go_wp2
            go_ret2
            rw [Hz2.out.1, Hz2.out.2]
            exact GivesRows2.none (Hb8.out.alloc Hb8.out.size _) (Nat.zero_le _)
          · have b0 : ((r0 : Int) == 0) = false := beq_eq_false_iff_ne.2 (by omega)
            have hN8 := Hb8.out.size
            have Hmd := Lib.hid (made_rows (w := w8) rfl)
            clear hA1 hA1' hA2
            go_wp2
            go_loopw [14, 15] (fun ov kv wr => ∃ i : Nat, i ≤ L.length ∧ kv = .int .i64 i ∧ Hid (Below w.heap.size w wr ∧ Below w8.heap.size w8 wr) ∧ ∃ hs : List Hd, hs.length ≤ 4 ∧ wr.ownsRow w8.heap.size 42 1 ov hs.length (hdCells hs) ∧ Hid (hs.map Hd.l = Mv.sel (L.set p R) q i ∧ (∀ h ∈ hs, RowIn wr (if i ≤ p then w8.heap.size else w.heap.size) wr.heap.size 3 h.a (intCells h.l)) ∧ Apts hs)) (fun _ kv _ => L.length - (intOf kv).toNat)
            case atStart => exact ⟨0, by omega, rfl, Lib.hid ⟨Hb8.out.alloc hN8 _, (Below.refl _ _).alloc (Nat.le_refl _) _⟩, [], by simp, Hmd.out, Lib.hid ⟨by rw [Mv.sel_zero]; rfl, fun _ h => (by cases h), Apts.nil⟩⟩
            case round =>
              obtain ⟨i, hi, rfl, hb, hs, hs4, hown, hfx⟩ := hrel
              have hNw : w.heap.size ≤ wr.heap.size := hb.out.1.size
              have h8w : w8.heap.size ≤ wr.heap.size := hb.out.2.size
              have Hsl := Lib.hid (show (Mv.sel (L.set p R) q (i + 1)).length ≤ 4 from Nat.le_trans (Mv.sel_len _ _ _) (by rw [List.length_set]; exact hln))
              have c1 : hs.length + 1 ≤ maxLen := by unfold maxLen; omega
              have c2 : (hs.length + 1) * 24 ≤ 140737488355328 := by omega
              by_cases hlt : i < L.length
              · by_cases hip : i = p
                · subst hip
                  have hiq : i ≠ q := by omega
                  have Hst := Lib.hid (Mv.sel_step HRp.out hiq)
                  have Hown := Lib.hid hown
                  obtain ⟨av, cv, rfl⟩ := own_len hown
                  clear hown hiq
                  go_wp2_with (at_builtin; refine append_one rfl (.tmp 109) (.tmp 111) 24 rfl w8.heap.size 42 i0 _ 24 Try.underlying24 Hi0.out Hz0.out Hz1.out Hz2.out (by rfl) _ _ _ rfl Hown.out (by rfl) _ rfl c1 c2 h8w ?_; intro v9 w9 hown9 hg9 _)
                  go_roundw
                  case rel =>
                    have hfx1 := hfx.out.2.1
                    rw [if_pos (Nat.le_refl _)] at hfx1
                    have hst := grid_old (c := tc) hfx1 hfx.out.2.2 Hown.out hN8 h8w (Hf8.out.below hb.out.2) hg9 (by rw [Hr0.out]; exact Htc.out)
                    have hmap : (hs ++ [(⟨ta, tc, R⟩ : Hd)]).map Hd.l = Mv.sel (L.set i R) q (i + 1) := by rw [List.map_append, hfx.out.1, Hst.out]; rfl
                    refine ⟨i + 1, by omega, by go_num, Lib.hid ⟨Below.grown (hb.out.1.alloc hNw _) hg9 (by simp; omega) (fun k hk => by have := (Hown.out.lt k hk).1; omega), Below.grown (hb.out.2.alloc h8w _) hg9 (by simp; omega) (fun k hk => (Hown.out.lt k hk).1)⟩, hs ++ [⟨ta, tc, R⟩], ?_, ?_, Lib.hid ⟨hmap, ?_, hst.2⟩⟩
                    · have := congrArg List.length hmap
                      rw [List.length_map] at this
                      rw [this]; exact Hsl.out
                    · rw [← hdCells_snoc, List.length_append]; rw [← Hr0.out] at hown9; exact hown9
                    · rw [if_neg (by omega)]; exact hst.1
                  case measure => simp [intOf]; omega
                · by_cases hiq : i = q
                  · subst hiq
                    have Hst := Lib.hid (Mv.sel_skip (M := L.set p R) (q := i) (by rw [List.length_set]; exact hlt))
                    have Hown := Lib.hid hown
                    obtain ⟨av, cv, rfl⟩ := own_len hown
                    have bq : ((i : Int) != (i : Int)) = false := by simp
                    clear hown
                    go_wp2
                    go_roundw
                    case rel => exact ⟨i + 1, by omega, by go_num, hb, hs, hs4, Hown.out, Lib.hid ⟨by rw [hfx.out.1, Hst.out], by have := hfx.out.2.1; rw [if_neg (by omega)] at this ⊢; exact this, hfx.out.2.2⟩⟩
                    case measure => simp [intOf]; omega
                  · obtain ⟨r, hr⟩ := get_some (l := L.set p R) (i := i) (by rw [List.length_set]; exact hlt)
                    have hrL := Hrows.out i r hr hip
                    have hr24 := Hr24.out i r hrL
                    have Hst := Lib.hid (Mv.sel_step hr hiq)
                    obtain ⟨_, _, ri, rj, e1, _, hcr, hrr⟩ := Ha.out.cell hrL
                    cases e1
                    have hcellA := hcr (wr.alloc (.cells #[] 3)) (hb.out.1.alloc hNw _)
                    have HrrA := Lib.hid (hrr (wr.alloc (.cells #[] 3)) (hb.out.1.alloc hNw _))
                    have Hmk2 := Lib.hid (own_made (w := wr) rfl)
                    have Hown := Lib.hid hown
                    have d1 : 0 + r.length ≤ maxLen := by unfold maxLen; omega
                    have d2 : (0 + r.length) * 8 ≤ 140737488355328 := by omega
                    have bp : ((i : Int) == (p : Int)) = false := beq_eq_false_iff_ne.2 (by omega)
                    have bq : ((i : Int) != (q : Int)) = true := by simp; omega
                    obtain ⟨av, cv, rfl⟩ := own_len hown
                    clear hown hr hrL hcr hrr
                    go_wp2_with (at_builtin; first
                      | (refine append_row rfl (.tmp 117) (.tmp 121) 42 rfl wr.heap.size 3 j0 _ 8 Try.underlying42 Hj0.out Hy0.out Hy1.out Hy2.out (by rfl) _ 0 (intCells []) rfl Hmk2.out _ r.length _ (intCells r) rfl HrrA.out (intCells_len _) (intCells_one _) d1 d2 (by simp) ?_; intro v9 w9 hown9 hg9; (try rw [Nat.zero_add] at hown9); have hb9 := Below.grown ((Below.refl wr.heap.size wr).alloc (Nat.le_refl _) _) hg9 (by simp) (fun k hk => by injection hk with hk; exact Nat.le_of_eq hk); have hfr9 := own_fresh hown9 (by simp [intCells_len]); obtain ⟨sa, sc, rfl, hsc, hf9⟩ := hfr9; have Hb9 := Lib.hid hb9; have Hf9 := Lib.hid hf9; have Hsc := Lib.hid hsc; have Hown9 := Lib.hid (own_keep Hown.out hb9 (fun k hk => (Hown.out.lt k hk).2)); have hbase9 := Nat.le_trans h8w hb9.size; clear hown9 hg9 hb9 hf9 hsc)
                      | (refine append_one rfl (.tmp 116) (.tmp 123) 24 rfl w8.heap.size 42 i0 _ 24 Try.underlying24 Hi0.out Hz0.out Hz1.out Hz2.out (by rfl) _ _ _ rfl Hown9.out (by rfl) _ rfl c1 c2 hbase9 ?_; intro v10 w10 hown10 hg10 _))
                    go_roundw
                    case rel =>
                      have hlo : (if i + 1 ≤ p then w8.heap.size else w.heap.size) = (if i ≤ p then w8.heap.size else w.heap.size) := by
                        by_cases h : i ≤ p
                        · rw [if_pos h, if_pos (by omega)]
                        · rw [if_neg h, if_neg (by omega)]
                      have hlow : (if i ≤ p then w8.heap.size else w.heap.size) ≤ w8.heap.size := by split <;> omega
                      have hst := grid_step (c := sc) hfx.out.2.1 hfx.out.2.2 (own_mono Hown9.out hlow) (by omega) Hf9.out Hb9.out hg10 Hsc.out
                      have hmap : (hs ++ [(⟨sa, sc, r⟩ : Hd)]).map Hd.l = Mv.sel (L.set p R) q (i + 1) := by rw [List.map_append, hfx.out.1, Hst.out]; rfl
                      refine ⟨i + 1, by omega, by go_num, Lib.hid ⟨Below.grown ((hb.out.1.trans (Hb9.out.mono hNw)).alloc (by omega) _) hg10 (by simp; omega) (fun k hk => by have := (Hown9.out.lt k hk).1; omega), Below.grown ((hb.out.2.trans (Hb9.out.mono h8w)).alloc hbase9 _) hg10 (by simp; omega) (fun k hk => (Hown9.out.lt k hk).1)⟩, hs ++ [⟨sa, sc, r⟩], ?_, ?_, Lib.hid ⟨hmap, ?_, hst.2⟩⟩
                      · have := congrArg List.length hmap
                        rw [List.length_map] at this
                        rw [this]; exact Hsl.out
                      · rw [← hdCells_snoc, List.length_append]; exact hown10
                      · rw [hlo]; exact hst.1
                    case measure => simp [intOf]; omega
              · obtain rfl : i = L.length := by omega
                have h1 := hfx.out.1
                rw [show Mv.sel (L.set p R) q L.length = (L.set p R).eraseIdx q from by have := Mv.sel_all (L.set p R) q; rwa [List.length_set] at this] at h1
                have h2 := hfx.out.2.1
                rw [if_neg (by omega)] at h2
                have hlen : hs.length = ((L.set p R).eraseIdx q).length := by rw [← h1]; simp
                have Hown := Lib.hid hown
                obtain ⟨av, cv, rfl⟩ := own_len hown
                have Hheld := Lib.hid (show Held wr w.heap.size (.slice av hs.length cv) ((L.set p R).eraseIdx q) from ⟨hs, h1, by rw [← hlen]; exact own_mono Hown.out hN8, h2, hfx.out.2.2⟩)
                clear h1 h2 hlen hown
                go_wp2_with fail
                refine (HR.out _ wr Hheld.out hNw).mono ?_
                rintro e w10 ⟨v10, rfl, hh10, hb10⟩
                have Hh10 := Lib.hid hh10; have Hb10 := Lib.hid (hb.out.1.trans (hb10.mono hNw))
                clear hh10 hb10
                go_wp2
                go_ret2
                exact Hh10.out.gives Hb10.out
end Go.Proofs.Ytlfniodocaiijaa
