/-
  The walk of the program's DehnStep: a search that goes on by goto.
-/
import Derived.Test.YtfaagbmaekoogaaBase
import Derived.Test.YtfaagbmaekoogaaSlice
import Derived.Test.YtfaagbmaekoogaaInts
import Derived.Test.YtfaagbmaekoogaaOwn
import Derived.Test.YtfaagbmaekoogaaWord
import Derived.Test.YtfaagbmaekoogaaIsWord
import Derived.Test.YtfaagbmaekoogaaReduce
import Derived.Test.YtfaagbmaekoogaaConcat
import Derived.Test.YtfaagbmaekoogaaTurn
import Derived.Test.YtfaagbmaekoogaaInvert
import Derived.Test.YtfaagbmaekoogaaAm
import Derived.Test.YtfaagbmaekoogaaGrpA
import Derived.Test.YtfaagbmaekoogaaGrpB
import Derived.Deep.QuietTactic
import Derived.BigQuiet
import Derived.WalkMore
import Derived.ScopeJumps
import Derived.StillTailTactics
import Derived.Outline
namespace Go.Proofs.Ytfaagbmaekoogaa
open Go.RowKit

/-- A scope in which the run jumps back to one label: what holds at the label is proved once. -/
theorem scope_jumps {P : Program} {a : Act} {w : World} {Q : Exit → Act → World → Prop} {c rest : Code} (l : Nat) (J : Act → World → Prop) (μ : Act → World → Nat) (hf : findLabel c l = some (Code.skip.seq rest))
    (pass : ∀ a w, J a w → rest.wp P (Exit.jump l (fun a' w' => J a' w' ∧ μ a' w' < μ a w) Q) a w)
    (first : (∀ a w, J a w → rest.wp P (Exit.jump l J Q) a w) → c.wp P (Exit.jump l J Q) a w) : (Code.scope c).wp P Q a w :=
  wp_scope_jumps l J μ hf (first fun a w h => Go.wp_mono (pass a w h) fun e a' w' => by
    cases e <;> first | exact id | exact fun h => ⟨h.1, h.2.1⟩) (fun a w h => wp_seq (wp_skip (pass a w h)))
theorem cut_row {w : World} {b o c m : Nat} {l : List Int} (h : RowAt w (some ⟨b, o, none⟩) (intCells l)) (hm : m ≤ l.length) (hc : l.length ≤ c) : RowAt w (if c = m then some ⟨b, o, none⟩ else some ⟨b, o + m, none⟩) (intCells (l.drop m)) := by
  by_cases e : c = m
  · exact Or.inl (by rw [List.drop_eq_nil_of_le (by omega)]; rfl)
  · rw [if_neg e]; exact row_drop h
theorem cat_at (ps : List Part) (W : World) (a : Option Addr) (n : Nat) (hrow : RowAt W a (ps.map Part.cell)) (hn : ps.length = n) (hps : ∀ p ∈ ps, RowAt W p.1 (intCells p.2.2)) (h4 : n ≤ 1000) (hl : Part.len ps ≤ 4194304) :
    Calls Try.prog 81 #[.slice a n n] W fun e w' => Gives W (Part.all ps) e w' := by
  subst hn
  exact slices_Concat a ps.length ps W hrow (fun i hi => hps _ (List.getElem_mem hi)) h4 hl
theorem Gives.with2 {w w' : World} {l : List Int} {v : Value} {b : Bool} (h : Gives w l (.returned v) w') : Gives2 w l b (.returned (.tuple #[v, .bool b])) w' := h.with
namespace Dn
theorem stepAt_no {g : Int} {w : List Int} {i : Nat} (h : ((bestTo g (w.drop i) (8 * g).toNat).1 : Int) ≤ 2 * g) : stepAt g w i = none := by
  unfold stepAt; rw [if_neg (by omega)]
theorem stepAt_yes {g : Int} {w : List Int} {i : Nat} (h : 2 * g < ((bestTo g (w.drop i) (8 * g).toNat).1 : Int)) : stepAt g w i = some (out g w i (bestTo g (w.drop i) (8 * g).toNat)) := by
  unfold stepAt; rw [if_pos h]
end Dn

set_option maxRecDepth 100000 in
set_option maxHeartbeats 4000000 in
theorem impl_DehnStep_fit (g : Int) (a : Option Addr) (c : Nat) (l : List Int) (w : World) (ha : RowAt w a (intCells l)) (hF : Dn.Fit g l) :
    Calls Try.prog 47 #[.int .i64 g, .slice a l.length c] w fun e w' => Gives2 w ((Dn.step g (Word.red l)).getD []) (Dn.step g (Word.red l)).isSome e w' := by
  have hl24 := hF.2.1.2
  have hcF := impl_isGroupWord g a c l w ha (by omega)
  rw [decide_eq_true hF] at hcF
  have hcR := fun W (hb : Below w.heap.size w W) => impl_ReduceWord a c l W (ha.below hb) (by omega)
  rw [show Word.reduce l = Word.red l from if_pos hF.2.1] at hcR
  have hg := hF.1
  have hLets := hF.red.lets
  have hR24 : (Word.red l).length ≤ 24 := hF.red.2.1.2
  have HcF := Lib.hid hcF; have HcR := Lib.hid hcR; have Hg := Lib.hid hg; have HLets := Lib.hid hLets
  obtain ⟨hg0, hg1⟩ := hg
  clear hcF hcR hF ha hLets
  go_enter Try.func47, Try.ntmps47
  go_wp2
  refine scope_jumps 0 (fun a' w' => ∃ (i : Nat) (ra : Option Addr) (rc : Nat) (w1 : World), i ≤ (Word.red l).length ∧ (∃ u8 u9 u17 u18 u19 u20 u21 u22 u23 u24 u25 u26 u27 u28 u29 u30 u31 u32 u33 u34 : Value, a' = { tmps := #[.int .i64 g, .slice a l.length c, undef, undef, .slice none 0 0, .bool false, .slice ra (Word.red l).length rc, .int .i64 (i : Int), u8, u9, undef, .int .i64 g, .slice a l.length c, .bool true, .bool false, .slice a l.length c, .slice ra (Word.red l).length rc, u17, u18, u19, u20, u21, u22, u23, u24, u25, u26, u27, u28, u29, u30, u31, u32, u33, u34, undef, undef, undef, undef, undef, undef, undef, undef, undef, undef, undef, undef, undef, undef, undef, undef], defers := [] }) ∧ (Word.red l).length ≤ rc ∧ rc ≤ maxLen ∧ Hid (RowAt w1 ra (intCells (Word.red l)) ∧ Below w.heap.size w w1 ∧ Below w1.heap.size w1 w' ∧ ∀ j, j < i → Dn.stepAt g (Word.red l) j = none)) (fun a' _ => (Word.red l).length - (intOf (a'.tmps.getD 7 undef)).toNat) rfl ?pass ?first
  case first =>
    intro hpass
    have HP := Lib.hid hpass; clear hpass
    go_wp2_with fail
    refine HcF.out.mono ?_
    rintro e w1 ⟨rfl, hb1⟩
    go_wp2_with fail
    refine (HcR.out w1 hb1).mono ?_
    rintro e w2 ⟨ra, rc, rfl, hrc, hrcm, hfr, hb2⟩
    have Hfr := Lib.hid hfr; have Hb := Lib.hid (hb1.trans (hb2.mono hb1.size))
    clear hfr hb1 hb2
    go_wp2
    go_step3
    rename_i hK
    exact hK _ _ (HP.out _ _ ⟨0, ra, rc, w2, Nat.zero_le _, ⟨_, _, _, _, _, _, _, _, _, _, _, _, _, _, _, _, _, _, _, _, rfl⟩, hrc, hrcm, Lib.hid ⟨Hfr.out.row, Hb.out, Below.refl _ _, fun j hj => absurd hj (by omega)⟩⟩)
  case pass =>
    rintro a' w' ⟨i, ra, rc, w1, hi, ⟨u8, u9, u17, u18, u19, u20, u21, u22, u23, u24, u25, u26, u27, u28, u29, u30, u31, u32, u33, u34, rfl⟩, hrc, hrcm, hh⟩
    generalize hR : Word.red l = R at *
    have HR := Lib.hid hR; clear hR
    by_cases hlt : i < R.length
    · have hrow := hh.out.1.below hh.out.2.2.1
      obtain ⟨b, o, rfl⟩ := row_some hrow (by omega)
      have hx : (R.drop i)[0]? = some R[i] := by rw [List.getElem?_drop]; simp [hlt]
      have hcA := impl_relatorAlong g R[i] (some ⟨b, o + i, none⟩) (rc - i) (R.drop i) w' Hg.out (row_drop hrow) (by rw [List.length_drop]; omega) hx (HLets.out _ (List.getElem_mem hlt))
      rw [List.length_drop] at hcA
      have hp := Dn.bestTo_le g (R.drop i) (8 * g).toNat
      have hpm := Dn.bestTo_mem g (R.drop i) (8 * g).toNat
      rw [List.length_drop] at hp
      have hraw := fun h => Dn.out_raw Hg.out (w := R) (i := i) (by omega) h
      have hrawl := Dn.out_letters Hg.out HLets.out i
      have hyes := fun h => Dn.stepAt_yes (g := g) (w := R) (i := i) h
      have hno := fun h => Dn.stepAt_no (g := g) (w := R) (i := i) h
      generalize Dn.bestTo g (R.drop i) (8 * g).toNat = p at *
      obtain ⟨p1, p2⟩ := p
      simp only at hp hpm hraw hrawl hyes hno hcA
      have Hhh := hh
      have Hrow := Lib.hid hrow; have HcA := Lib.hid hcA; have Hpm := Lib.hid hpm; have Hraw := Lib.hid hraw; have Hrawl := Lib.hid hrawl; have Hyes := Lib.hid hyes; have Hno := Lib.hid hno
      have Hx := Lib.hid hx
      obtain ⟨hp1, hp2⟩ := hp
      clear hrow hcA hpm hraw hrawl hyes hno hx
      have teq : ((i : Int) == (R.length : Int)) = false := beq_eq_false_iff_ne.2 (by omega)
      have j1 : i ≤ R.length := by omega
      have j2 : (i : Int) ≤ (R.length : Int) := by omega
      have j3 : (0 : Int) ≤ (i : Int) := by omega
      have j4 : i ≤ rc := by omega
      have j5 : (i : Int) ≤ (rc : Int) := by omega
      have j6 : ¬ rc = i := by omega
      go_wp2_with fail
      refine HcA.out.mono ?_
      rintro e w2 ⟨ta, tc, rfl, htc, htcm, hft, hb2⟩
      have Hft := Lib.hid hft; have Hb2 := Lib.hid hb2
      clear hft hb2
      by_cases hc : (p1 : Int) ≤ 2 * g
      · have dc : decide ((p1 : Int) ≤ 2 * g) = true := decide_eq_true hc
        have Hn := Lib.hid (Hno.out hc)
        go_wp2
        go_step3
        refine ⟨rfl, ⟨i + 1, some ⟨b, o, none⟩, rc, w1, by omega, ⟨_, _, _, _, _, _, _, _, _, _, _, _, _, _, _, _, _, _, _, _, by go_num⟩, hrc, hrcm, Lib.hid ⟨hh.out.1, hh.out.2.1, hh.out.2.2.1.trans (Hb2.out.mono hh.out.2.2.1.size), fun j hj => ?_⟩⟩, ?_⟩
        · rcases Nat.lt_or_ge j i with h | h
          · exact hh.out.2.2.2 j h
          · obtain rfl : j = i := by omega
            exact Hn.out
        · simp [intOf]; omega
      · have dc : decide ((p1 : Int) ≤ 2 * g) = false := decide_eq_false hc
        have hbig : 2 * g < (p1 : Int) := by omega
        have Hs := Lib.hid (Dn.step_at hlt (Hyes.out hbig) hh.out.2.2.2)
        have hrl := Hraw.out hbig
        have hwp : Word.IsW (p2.drop p1) ∧ p2.length ≤ 8 := by
          rcases Hpm.out with e | ⟨k, _, e⟩
          · rw [e] at hp2; simp at hp2; omega
          · refine ⟨⟨fun y hy => ?_, ?_⟩, ?_⟩
            · rw [e] at hy; exact (Dn.cand_letters Hg.out k y (List.mem_of_mem_drop hy)).1
            · rw [List.length_drop, e, Dn.cand_len]; have := Dn.rel_len8 g; omega
            · rw [e, Dn.cand_len]; exact Dn.rel_len8 g

        obtain ⟨hwp, hp8⟩ := hwp
        have hwraw : Word.IsW (R.take i ++ (Word.inv (p2.drop p1) ++ R.drop (i + p1))) := ⟨fun y hy => (Hrawl.out y hy).1, by omega⟩
        obtain ⟨tb, to, rfl⟩ := row_some Hft.out.row (by omega)
        obtain ⟨A1, hA1⟩ : ∃ A1, (if tc = p1 then some (⟨tb, to, none⟩ : Addr) else some ⟨tb, to + p1, none⟩) = A1 := ⟨_, rfl⟩
        have hrA1 := cut_row (m := p1) Hft.out.row hp2 htc
        rw [hA1] at hrA1
        have hcI := impl_InverseWord A1 (tc - p1) (p2.drop p1) w2 hrA1 (by rw [List.length_drop]; omega)
        rw [inverse_of hwp, List.length_drop] at hcI
        obtain ⟨A2, hA2⟩ : ∃ A2, (if rc = i + p1 then some (⟨b, o, none⟩ : Addr) else some ⟨b, o + (i + p1), none⟩) = A2 := ⟨_, rfl⟩
        have hrA2 := cut_row (m := i + p1) Hrow.out (by omega) hrc
        rw [hA2] at hrA2
        have HcI := Lib.hid hcI; have HrA2 := Lib.hid hrA2; have Hwraw := Lib.hid hwraw
        clear hcI hrA1 hrA2 hwraw hwp
        have k1 : p1 ≤ p2.length := hp2
        have k2 : (p1 : Int) ≤ (p2.length : Int) := by omega
        have k3 : p1 ≤ tc := by omega
        have k4 : (p1 : Int) ≤ (tc : Int) := by omega
        have k5 : (0 : Int) ≤ (p1 : Int) := by omega
        have k6 : i + p1 ≤ R.length := by omega
        have k7 : (i : Int) + (p1 : Int) ≤ (R.length : Int) := by omega
        have k8 : (0 : Int) ≤ (i : Int) + (p1 : Int) := by omega
        have HA2 := Lib.hid hA2
        clear hA2
        go_wp2_with fail
        refine HcI.out.mono ?_
        rintro e w3 ⟨oa, oc, rfl, hoc, hocm, hfo, hb3⟩
        have Hfo := Lib.hid hfo; have Hb3 := Lib.hid (Hb2.out.trans (hb3.mono Hb2.out.size))
        clear hfo hb3 hA1
        have k9 : IntKind.i64.wrap ((i : Int) + (p1 : Int)) = (i : Int) + (p1 : Int) := wrap_small (by omega) (by omega)
        have k10 : ((i : Int) + (p1 : Int)).toNat = i + p1 := by omega
        have k11 : i + p1 ≤ rc := by omega
        have k12 : (i : Int) + (p1 : Int) ≤ (rc : Int) := by omega
        have hA2 := HA2.out
        go_wp2
        go_still_tail 9, (by kernel_rfl)
        change wpList _ _ _ _ _ w3.drew
        have Hl1 : Hid ((R.take i).length = i) := Lib.hid (by simp; omega)
        have Hl3 : Hid ((R.drop (i + p1)).length = R.length - (i + p1)) := Lib.hid (by simp)
        have hbE : Below w'.heap.size w' (w3.drew.alloc (.cells #[.slice (some ⟨b, o, none⟩) i rc, .slice oa (Word.inv (p2.drop p1)).length oc, .slice A2 (R.length - (i + p1)) (rc - (i + p1))] 42)) := Hb3.out.drew.alloc Hb3.out.size _
        have hbO : Below w3.heap.size w3 (w3.drew.alloc (.cells #[.slice (some ⟨b, o, none⟩) i rc, .slice oa (Word.inv (p2.drop p1)).length oc, .slice A2 (R.length - (i + p1)) (rc - (i + p1))] 42)) := (Below.refl _ _).drew.alloc (Nat.le_refl _) _
        have hcc := cat_at [(some ⟨b, o, none⟩, rc, R.take i), (oa, oc, Word.inv (p2.drop p1)), (A2, rc - (i + p1), R.drop (i + p1))] (w3.drew.alloc (.cells #[.slice (some ⟨b, o, none⟩) i rc, .slice oa (Word.inv (p2.drop p1)).length oc, .slice A2 (R.length - (i + p1)) (rc - (i + p1))] 42)) (some ⟨w3.heap.size, 0, none⟩) 3 (by simp only [List.map_cons, List.map_nil, Part.cell, Hl1.out, Hl3.out]; exact (Blk.new w3.drew 42 _).row) rfl (by
          intro p hp
          simp only [List.mem_cons, List.not_mem_nil, or_false] at hp
          rcases hp with rfl | rfl | rfl
          · exact row_take (Hrow.out.below hbE)
          · exact Hfo.out.row.below hbO
          · exact HrA2.out.below hbE) (by decide) (by have := Hwraw.out.2; simp [Part.len, Part.all] at this ⊢; omega)
        rw [show Part.all [(some ⟨b, o, none⟩, rc, R.take i), (oa, oc, Word.inv (p2.drop p1)), (A2, rc - (i + p1), R.drop (i + p1))] = R.take i ++ (Word.inv (p2.drop p1) ++ R.drop (i + p1)) from by simp [Part.all]] at hcc
        have Hcc := Lib.hid hcc
        have HbD := Lib.hid (hh.out.2.2.1.trans (hbE.mono hh.out.2.2.1.size))
        clear hcc hbE hbO hA2
        unfold Dn.out at Hs
        simp only at Hs
        generalize R.take i ++ (Word.inv (p2.drop p1) ++ R.drop (i + p1)) = V at *
        go_wp2_with fail
        refine Hcc.out.mono ?_
        rintro e w5 ⟨va, vc, rfl, hvc, hvcm, hfv, hb5⟩
        have Hfv := Lib.hid hfv; have Hb5 := Lib.hid (HbD.out.trans (hb5.mono HbD.out.size))
        clear hfv hb5
        have hcV := impl_ReduceWord va vc V w5 Hfv.out.row (by have := Hwraw.out.2; omega)
        rw [show Word.reduce V = Word.red V from if_pos Hwraw.out] at hcV
        have HcV := Lib.hid hcV; clear hcV
        go_wp2_with fail
        refine HcV.out.mono ?_
        rintro e w6 hg6
        have Hg6 := Lib.hid ((hg6.later Hb5.out).later hh.out.2.1)
        obtain ⟨ya, yc, rfl, _, _, _, _⟩ := hg6
        go_wp2
        simp only [Exit.jump]
        go_ret2
        rw [HR.out, Hs.out]
        exact Hg6.out.with2
    · obtain rfl : i = R.length := by omega
      have Hs := Lib.hid (Dn.step_no hh.out.2.2.2)
      have teq : ((R.length : Int) == (R.length : Int)) = true := beq_self_eq_true _
      go_wp2
      simp only [Exit.jump]
      go_ret2
      rw [HR.out, Hs.out]
      exact Gives2.none (hh.out.2.1.trans (hh.out.2.2.1.mono hh.out.2.1.size))
set_option maxRecDepth 100000 in
set_option maxHeartbeats 1000000 in
theorem impl_DehnStep (g : Int) (a : Option Addr) (c : Nat) (l : List Int) (w : World) (ha : RowAt w a (intCells l)) (hl : l.length ≤ 1048576) :
    Calls Try.prog 47 #[.int .i64 g, .slice a l.length c] w fun e w' => Gives2 w ((Dn.stepW g l).getD []) (Dn.stepW g l).isSome e w' := by
  by_cases hF : Dn.Fit g l
  · rw [show Dn.stepW g l = Dn.step g (Word.red l) from if_pos hF]
    exact impl_DehnStep_fit g a c l w ha hF
  · rw [show Dn.stepW g l = none from if_neg hF]
    have hcF := impl_isGroupWord g a c l w ha (by omega)
    rw [decide_eq_false hF] at hcF
    have HcF := Lib.hid hcF
    clear hcF hF
    go_enter Try.func47, Try.ntmps47
    go_wp2
    go_step3
    go_wp2_with fail
    refine HcF.out.mono ?_
    rintro e w1 ⟨rfl, hb1⟩
    go_wp2
    simp only [Exit.noGoto_ret]
    go_ret2
    exact Gives2.none hb1
end Go.Proofs.Ytfaagbmaekoogaa
