/-
  The walk of the model's SheetSymmetries.
-/
import Derived.Test.YtodgongemoabiaaBase
import Derived.Test.YtodgongemoabiaaSlice
import Derived.Test.YtodgongemoabiaaIntRow
import Derived.Test.YtodgongemoabiaaInts
import Derived.Test.YtodgongemoabiaaOwn
import Derived.Test.YtodgongemoabiaaGrid
import Derived.Test.YtodgongemoabiaaGivesRows
import Derived.Test.YtodgongemoabiaaWord
import Derived.Test.YtodgongemoabiaaClass
import Derived.Test.YtodgongemoabiaaLab
import Derived.Test.YtodgongemoabiaaMap
import Derived.Test.YtodgongemoabiaaMapA
import Derived.Test.YtodgongemoabiaaEnds
import Derived.Test.YtodgongemoabiaaGraphEn
import Derived.Test.YtodgongemoabiaaCov
import Derived.Test.YtodgongemoabiaaCovA
import Derived.Test.YtodgongemoabiaaCovP
import Derived.Test.YtodgongemoabiaaCovQ
import Derived.Test.YtodgongemoabiaaCovAll
import Derived.Test.YtodgongemoabiaaCovS
import Derived.Deep.QuietTactic
import Derived.BigQuiet
import Derived.StillTailTactics
namespace Go.Proofs.Ytodgongemoabiaa
open Go.RowKit

set_option maxRecDepth 10000 in
set_option maxHeartbeats 4000000 in
theorem spec_SheetSymmetries (a : Option Addr) (c : Nat) (L : List (List Int)) (w : World) (ha : GridAt w a L) (hL : ∀ p ∈ L, p.length ≤ 1048576) (hn : L.length ≤ 1048576) :
    Calls Try.prog 72 #[.slice a L.length c] w fun e w' => e = .returned (.int .i64 (Cv.symms L)) ∧ Below w.heap.size w w' := by
  have hcP := spec_l9Perms a c L w ha hL hn
  by_cases hP : Cv.Perms L
  · rw [decide_eq_true hP] at hcP
    have h5 := hP.2.2.2.2
    have hl1 := hP.2.1
    have hl8 := hP.2.2.1
    obtain ⟨r0, hr0, hr0l⟩ := Cv.head_get (L := L) (by omega)
    obtain ⟨b0, o0, a0, c0, rfl, hbw0, hcell0, _⟩ := ha.get hr0
    rw [Nat.add_zero, hr0l] at hcell0
    have i2 : 0 < L.length := by omega
    have hPd := hP.1
    obtain ⟨V, hV⟩ : ∃ V, Cv.symms L = V := ⟨_, rfl⟩
    rw [hV]
    rw [Cv.symms_of hP] at hV
    have hq := fun r (hr : r ∈ Mp.natRows (Cv.all (Cv.deg L))) => Cv.all_isP hr
    have hper := fun W => spec_l9All (Cv.deg L) W h5
    have hRl : (Mp.natRows (Cv.all (Cv.deg L))).length ≤ 120 := by rw [Cv.natRows_size]; exact Cv.all_few h5
    generalize Mp.natRows (Cv.all (Cv.deg L)) = R at *
    generalize Cv.deg L = n at *
    have Ha := Lib.hid ha; have Hc0 := Lib.hid hcell0; have HPd := Lib.hid hPd; have HV := Lib.hid hV; have Hq := Lib.hid hq; have Hper := Lib.hid hper; have HcP := Lib.hid hcP
    clear ha hP hr0 hr0l hcell0 hPd hV hq hper hcP hL
    go_enter Try.func72, Try.ntmps72
    go_wp2_with fail
    refine HcP.out.mono ?_
    rintro e w1 ⟨rfl, hb1⟩
    have Hb1 := Lib.hid hb1; clear hb1
    have c1 : w1.cell? ⟨b0, o0, none⟩ = some (.slice a0 n c0) := by rw [Hb1.out.cell hbw0]; exact Hc0.out
    go_wp2_with fail
    refine (Hper.out w1).mono ?_
    rintro e w2 ⟨ra, rc, rfl, _, _, hg2, hb2⟩
    have Hb2 := Lib.hid (Hb1.out.trans (hb2.mono Hb1.out.size)); have Hg2 := Lib.hid hg2.grid
    clear hg2 hb2 c1
    go_wp2
    go_loopw [3, 5, 6, 7, 8] (fun sv kv _ _ _ wr => ∃ k : Nat, k ≤ R.length ∧ kv = .int .i64 k ∧ sv = .int .i64 ((Cv.symN L R k : Nat) : Int) ∧ Hid (Below w2.heap.size w2 wr)) (fun _ kv _ _ _ _ => R.length - (intOf kv).toNat)
    case atStart => exact ⟨0, by omega, rfl, rfl, Lib.hid (Below.refl _ _)⟩
    case round =>
      obtain ⟨k, hk, rfl, rfl, hb⟩ := hrel
      by_cases hlt : k < R.length
      · obtain ⟨p, hp⟩ := get_some hlt
        obtain ⟨hpl, hpP⟩ := Hq.out p (get_mem hp)
        obtain ⟨b, o, ai, ci, rfl, hbw, hcell, hrow⟩ := Hg2.out.get hp
        rw [hpl] at hcell
        have hpn : ∀ s, s < n → Mp.at_ p s < n := fun s hs => by have := Mp.at_lt hpP (d := s) (by omega); omega
        have hpc : ∀ s, s < n → ∃ b' o', ai = some ⟨b', o', none⟩ ∧ ∀ W, Below w2.heap.size w2 W → W.cell? ⟨b', o' + s, none⟩ = some (.int .i64 ((Mp.at_ p s : Nat) : Int)) := fun s hs => by
          obtain ⟨b', o', e', hb', hc'⟩ := intCells_get? hrow (Mp.at_get hpP (d := s) (by omega))
          exact ⟨b', o', e', fun W hW => by rw [hW.cell hb']; exact hc'⟩
        have hpk : ∀ W, Below w2.heap.size w2 W → W.cell? ⟨b, o + k, none⟩ = some (.slice ai n ci) := fun W hW => by rw [hW.cell hbw]; exact hcell
        have hst := Cv.symN_step (L := L) hp
        have hle := Cv.symN_le L R k
        have k0 : (0 : Int) ≤ (k : Int) := by omega
        have k1 : (k : Int) < (R.length : Int) := by omega
        generalize hS : Cv.symN L R k = S at *
        generalize hS1 : Cv.symN L R (k + 1) = S1 at *
        have HS1 := Lib.hid hS1; have Hst := Lib.hid hst; have Hpn := Lib.hid hpn; have Hpc := Lib.hid hpc; have Hpk := Lib.hid hpk
        have dlk : decide (k < R.length) = true := decide_eq_true hlt
        clear hp hrow hcell hS hS1 hpl hst hpn hpc hpk hpP
        go_wp2
        go_loopw [6, 7, 8] (fun fv iv _ wr => ∃ i : Nat, i ≤ L.length ∧ iv = .int .i64 i ∧ ∃ fb : Bool, fv = .bool fb ∧ Hid (fb = true ↔ ∀ q ∈ L.take i, Cv.Comm p q) ∧ Hid (Below w2.heap.size w2 wr)) (fun _ iv _ _ => L.length - (intOf iv).toNat)
        case atStart => exact ⟨0, by omega, rfl, true, rfl, Lib.hid (by simp), hb⟩
        case round =>
          clear hb
          obtain ⟨i, hi, rfl, fb, rfl, hfb, hb⟩ := hrel
          have hbw' := Hb2.out.trans (hb.out.mono Hb2.out.size)
          by_cases hlti : i < L.length
          · obtain ⟨q, hqq⟩ := get_some hlti
            obtain ⟨hql, hqP⟩ := HPd.out q (get_mem hqq)
            obtain ⟨bq, oq, aq, cq, e0, hbwq, hcellq, hrowq⟩ := Ha.out.get hqq
            cases e0
            rw [hql] at hcellq
            have hqn : ∀ s, s < n → Mp.at_ q s < n := fun s hs => by have := Mp.at_lt hqP (d := s) (by omega); omega
            have hqc : ∀ s, s < n → ∃ b' o', aq = some ⟨b', o', none⟩ ∧ ∀ W, Below w2.heap.size w2 W → W.cell? ⟨b', o' + s, none⟩ = some (.int .i64 ((Mp.at_ q s : Nat) : Int)) := fun s hs => by
              obtain ⟨b', o', e', hb', hc'⟩ := intCells_get? hrowq (Mp.at_get hqP (d := s) (by omega))
              exact ⟨b', o', e', fun W hW => by rw [(Hb2.out.trans (hW.mono Hb2.out.size)).cell hb']; exact hc'⟩
            have hqk : ∀ W, Below w2.heap.size w2 W → W.cell? ⟨b0, o0 + i, none⟩ = some (.slice aq n cq) := fun W hW => by rw [(Hb2.out.trans (hW.mono Hb2.out.size)).cell hbwq]; exact hcellq
            have htk : L.take (i + 1) = L.take i ++ [q] := by
              obtain ⟨h2, rfl⟩ := List.getElem?_eq_some_iff.1 hqq
              rw [List.take_succ_eq_append_getElem h2]
            have Hqn := Lib.hid hqn; have Hqc := Lib.hid hqc; have Hqk := Lib.hid hqk; have Htk := Lib.hid htk; have Hql := Lib.hid hql
            have i0 : (0 : Int) ≤ (i : Int) := by omega
            have i1 : (i : Int) < (L.length : Int) := by omega
            have dli : decide (i < L.length) = true := decide_eq_true hlti
            clear hqq hrowq hcellq hql hqn hqc hqk hqP htk hbw'
            go_wp2
            go_loopw [6, 8] (fun fv sv wr => ∃ s : Nat, s ≤ n ∧ sv = .int .i64 s ∧ ∃ fb : Bool, fv = .bool fb ∧ Hid (fb = true ↔ (∀ q ∈ L.take i, Cv.Comm p q) ∧ Cv.CommTo p q s) ∧ Hid (Below w2.heap.size w2 wr)) (fun _ sv _ => n - (intOf sv).toNat)
            case atStart => exact ⟨0, by omega, rfl, fb, rfl, Lib.hid ⟨fun h => ⟨hfb.out.1 h, fun s hs => absurd hs (by omega)⟩, fun h => hfb.out.2 h.1⟩, hb⟩
            case round =>
              clear hb hfb
              obtain ⟨s, hs, rfl, fc, rfl, hfb, hb⟩ := hrel
              have dq := Hqk.out wr hb.out
              by_cases hlts : s < n
              · obtain ⟨bp, op, rfl, hc1⟩ := Hpc.out s hlts
                obtain ⟨bq', oq', rfl, hc2⟩ := Hqc.out s hlts
                obtain ⟨_, _, e3, hc3⟩ := Hpc.out (Mp.at_ q s) (Hqn.out s hlts)
                cases e3
                obtain ⟨_, _, e4, hc4⟩ := Hqc.out (Mp.at_ p s) (Hpn.out s hlts)
                cases e4
                have d1 := hc1 wr hb.out
                have d2 := hc2 wr hb.out
                have d3 := hc3 wr hb.out
                have d4 := hc4 wr hb.out
                have d5 := Hpk.out wr hb.out
                have hx := Hpn.out s hlts
                have hy := Hqn.out s hlts
                have Hto := Lib.hid (show Cv.CommTo p q (s + 1) ↔ Cv.CommTo p q s ∧ Mp.at_ p (Mp.at_ q s) = Mp.at_ q (Mp.at_ p s) from ⟨fun h => ⟨fun t ht => h t (by omega), h s (by omega)⟩, fun h => h.1.step h.2⟩)
                generalize hu : Mp.at_ p (Mp.at_ q s) = u at *
                generalize hv : Mp.at_ q (Mp.at_ p s) = v at *
                generalize Mp.at_ p s = x at *
                generalize Mp.at_ q s = y at *
                have s0 : (0 : Int) ≤ (s : Int) := by omega
                have s1 : (s : Int) < (n : Int) := by omega
                have x0 : (0 : Int) ≤ (x : Int) := by omega
                have x1 : (x : Int) < (n : Int) := by omega
                have y0 : (0 : Int) ≤ (y : Int) := by omega
                have y1 : (y : Int) < (n : Int) := by omega
                clear hc1 hc2 hc3 hc4 hu hv
                cases fc with
                | true =>
                  obtain ⟨be, hbe⟩ : ∃ be : Bool, ((u : Int) == (v : Int)) = be := ⟨_, rfl⟩
                  have Hnew := Lib.hid (show be = true ↔ (∀ q ∈ L.take i, Cv.Comm p q) ∧ Cv.CommTo p q (s + 1) from by
                    have h1 := hfb.out.1 rfl
                    rw [Hto.out, ← hbe, beq_iff_eq]
                    exact ⟨fun h => ⟨h1.1, h1.2, by omega⟩, fun h => by have := h.2.2; omega⟩)
                  go_wp2
                  go_quiet (fail)
                  go_wp2
                  go_roundw
                  case rel => exact ⟨s + 1, by omega, by go_num, be, rfl, Hnew, Lib.hid (below_drewN hb.out _)⟩
                  case measure => simp [intOf]; omega
                | false =>
                  have Hnew := Lib.hid (show false = true ↔ (∀ q ∈ L.take i, Cv.Comm p q) ∧ Cv.CommTo p q (s + 1) from by
                    refine ⟨fun h => (by cases h), fun h => ?_⟩
                    exact hfb.out.2 ⟨h.1, (Hto.out.1 h.2).1⟩)
                  clear d1 d2 d3 d4 d5
                  go_wp2
                  go_quiet (fail)
                  go_wp2
                  go_roundw
                  case rel => exact ⟨s + 1, by omega, by go_num, false, rfl, Hnew, Lib.hid (below_drewN hb.out _)⟩
                  case measure => simp [intOf]; omega
              · obtain rfl : n = s := by omega
                have Hnew := Lib.hid (show fc = true ↔ ∀ r ∈ L.take (i + 1), Cv.Comm p r from by
                  rw [hfb.out, Htk.out]
                  constructor
                  · rintro ⟨h1, h2⟩ r hr
                    rcases List.mem_append.1 hr with hr | hr
                    · exact h1 r hr
                    · rw [List.mem_singleton.1 hr]
                      intro t ht; rw [Hql.out] at ht; exact h2 t ht
                  · intro h
                    refine ⟨fun r hr => h r (List.mem_append.2 (Or.inl hr)), fun t ht => ?_⟩
                    exact h q (List.mem_append.2 (Or.inr (List.mem_singleton.2 rfl))) t (by rw [Hql.out]; exact ht))
                go_wp2
                go_roundw
                case rel => exact ⟨i + 1, by omega, by go_num, fc, rfl, Hnew, hb⟩
                case measure => simp [intOf]; omega
          · obtain rfl : i = L.length := by omega
            rw [List.take_of_length_le (Nat.le_refl _)] at hfb
            have hbit := fun W => spec_l1Bit fb W
            have Hsum := Lib.hid (show S1 = S + if fb = true then 1 else 0 from by
              rw [Hst.out]
              by_cases h : Cv.Symm L p
              · rw [if_pos h, if_pos (hfb.out.2 h)]
              · rw [if_neg h, if_neg fun e => h (hfb.out.1 e)])
            have hbz : (if fb = true then (1 : Int) else 0) = ((if fb = true then 1 else 0 : Nat) : Int) := by split <;> rfl
            rw [hbz] at hbit
            have hz1 : (if fb = true then 1 else 0 : Nat) ≤ 1 := by split <;> omega
            generalize (if fb = true then 1 else 0 : Nat) = z at *
            have Hbit := Lib.hid hbit
            clear hbit hbz hbw'
            go_wp2_with fail
            refine (Hbit.out _).mono ?_
            rintro e w3 ⟨rfl, hw3⟩
            rw [hw3]; clear hw3 w3
            go_wp2
            go_roundw
            case rel => exact ⟨k + 1, by omega, by go_num, by rw [HS1.out, Hsum.out]; go_num, hb⟩
            case measure => simp [intOf]; omega
      · obtain rfl : k = R.length := by omega
        have Hbw2 := Lib.hid (Hb2.out.trans (hb.out.mono Hb2.out.size))
        generalize ((Cv.symN L R R.length : Nat) : Int) = S at *
        go_wp2
        go_ret
        exact ⟨by rw [← HV.out]; rfl, Hbw2.out⟩
  · rw [decide_eq_false hP] at hcP
    rw [Cv.symms_not hP]
    have HcP := Lib.hid hcP
    clear hcP hP ha hL
    go_enter Try.func72, Try.ntmps72
    go_wp2_with fail
    refine HcP.out.mono ?_
    rintro e w1 ⟨rfl, hb1⟩
    have Hb1 := Lib.hid hb1; clear hb1
    go_wp2
    go_ret
    exact ⟨rfl, Hb1.out⟩
end Go.Proofs.Ytodgongemoabiaa
