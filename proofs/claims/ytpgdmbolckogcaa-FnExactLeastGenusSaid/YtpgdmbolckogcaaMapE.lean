/-
  The walks of the parts of a map and of its genus, the program's and the model's.
-/
import Derived.Test.YtpgdmbolckogcaaBase
import Derived.Test.YtpgdmbolckogcaaSlice
import Derived.Test.YtpgdmbolckogcaaInts
import Derived.Test.YtpgdmbolckogcaaGrid
import Derived.Test.YtpgdmbolckogcaaGridRows
import Derived.Test.YtpgdmbolckogcaaOwn
import Derived.Test.YtpgdmbolckogcaaClass
import Derived.Test.YtpgdmbolckogcaaLab
import Derived.Test.YtpgdmbolckogcaaMap
import Derived.Test.YtpgdmbolckogcaaMapA
import Derived.Test.YtpgdmbolckogcaaMapB
import Derived.Test.YtpgdmbolckogcaaMapC
import Derived.Test.YtpgdmbolckogcaaMapD
import Derived.StillTailTactics
import Derived.Deep.QuietTactic
import Derived.BigQuiet
namespace Go.Proofs.Ytpgdmbolckogcaa
open Go.RowKit

theorem ownRow_lab {w : World} {lo g cap n : Nat} {f : Nat → Nat} (h : w.ownsRow lo 3 1 (.slice (some ⟨g, 0, none⟩) n cap) n (intCells (Cls.row f n))) : Lab w g f n := by
  rcases h.2 with ⟨e, _⟩ | ⟨g', cap', cur, e, _, hh, _⟩
  · cases e
  · cases e
    refine ⟨cur, hh, fun k hk => ?_⟩
    have h1 := ownRow_cell h hk
    have h2 : Blk w g 3 cur := hh
    rw [h2.cell k] at h1; exact h1
theorem Lab.only {w w' : World} {g n : Nat} {u : Nat → Nat} (h : Lab w g u n) (hb : w.grownBy w' (some g)) {k m : Nat} {v : Nat → Nat} (hk : Lab w k v m) (hne : k ≠ g) : Lab w' k v m := by
  obtain ⟨all, h1, h2⟩ := hk
  exact ⟨all, h1.grown hb (fun e => hne (Option.some.inj e)), h2⟩
namespace Mp
theorem ring_snoc1 (l : List Int) (i : Nat) : Cls.merge (Cls.merge (Cls.mergeAll (pairsTo l i)) (i, at_ l i)) (i, mate i) = Cls.mergeAll (pairsTo l (i + 1)) := by
  rw [pairsTo_succ, Cls.mergeAll_snoc, Cls.mergeAll_snoc]
end Mp
set_option maxRecDepth 10000 in
theorem map_l1Bit (b : Bool) (w : World) : Calls Try.prog 79 #[.bool b] w fun e w' => e = .returned (.int .i64 (if b then 1 else 0)) ∧ w' = w := by
  cases b
  · go_enter Try.func79, Try.ntmps79
    go_wp2
    go_ret
    exact ⟨rfl, rfl⟩
  · go_enter Try.func79, Try.ntmps79
    go_wp2
    go_ret
    exact ⟨rfl, rfl⟩
set_option maxRecDepth 10000 in
set_option maxHeartbeats 4000000 in
theorem spec_l6Parts (a : Option Addr) (c : Nat) (l : List Int) (w : World) (ha : RowAt w a (intCells l)) (hM : Mp.IsM l) :
    Calls Try.prog 67 #[.slice a l.length c] w fun e w' => e = .returned (.int .i64 ((Mp.parts l : Nat) : Int)) ∧ Below w.heap.size w w' := by
  obtain ⟨i0, hi0, hz0, hz1, hz2⟩ := info_int_parts
  have hn : l.length ≤ 24 := hM.2.1
  have h2 : 2 ≤ l.length := hM.1
  have hown0 := own_made (w := w) rfl
  have hb0 := (Below.refl w.heap.size w).alloc (Nat.le_refl _) (.cells #[] 3)
  obtain ⟨V, hv⟩ : ∃ V, ((Mp.parts l : Nat) : Int) = V := ⟨_, rfl⟩
  rw [hv]
  have hread : ∀ d, d < l.length → ∃ b o, a = some ⟨b, o, none⟩ ∧ ∀ W, Below w.heap.size w W → W.cell? ⟨b, o + d, none⟩ = some (.int .i64 ((Mp.at_ l d : Nat) : Int)) := fun d hd => by
    obtain ⟨b, o, e, hb, hc⟩ := intCells_get? ha (Mp.at_get hM.2.2.2 hd)
    exact ⟨b, o, e, fun W hW => by rw [hW.cell (p := ⟨b, o + d, none⟩) hb]; exact hc⟩
  generalize hN : w.heap.size = N at *
  have HN := Lib.hid hN
  have Hi0 := Lib.hid hi0; have Hz0 := Lib.hid hz0; have Hz1 := Lib.hid hz1; have Hz2 := Lib.hid hz2
  have Hown0 := Lib.hid hown0; have Hb0 := Lib.hid hb0; have HM := Lib.hid hM; have Hv := Lib.hid hv; have Hread := Lib.hid hread
  clear hi0 hz0 hz1 hz2 hown0 hb0 ha hM hv hread
  go_enter Try.func67, Try.ntmps67
  go_wp2
  go_loopw [3, 4] (fun ov iv wr => ∃ i : Nat, i ≤ l.length ∧ iv = .int .i64 i ∧ Below N w wr ∧ wr.ownsRow N 3 1 ov i (intCells (Cls.row id i))) (fun _ iv _ => l.length - (intOf iv).toNat)
  case atStart => exact ⟨0, by omega, rfl, Hb0.out, Hown0.out⟩
  case round =>
    obtain ⟨i, hi, rfl, hb, hown⟩ := hrel
    by_cases hlti : i < l.length
    · have hNle : N ≤ wr.heap.size := by have := hb.size; rw [HN.out] at this; exact this
      have Hst := Lib.hid (row_snoc id i)
      obtain ⟨av, cv, rfl⟩ := own_len hown
      have hm1 : i + 1 ≤ maxLen := by unfold maxLen; omega
      have hm2 : (i + 1) * 8 ≤ 140737488355328 := by omega
      generalize Cls.row id i = X at *
      go_wp2_with (at_builtin; refine append_one rfl (.tmp 15) (.tmp 17) 27 rfl N 3 i0 _ 8 Try.underlying27 Hi0.out Hz0.out Hz1.out Hz2.out (by rfl) _ _ _ rfl hown (by rfl) _ rfl hm1 hm2 hNle ?_; intro v1 w1 hown1 hg1 _)
      go_roundw
      case rel =>
        refine ⟨i + 1, by omega, by go_num, Below.grown (hb.alloc hNle _) hg1 (by simp; omega) (fun k hk => (hown.lt k hk).1), ?_⟩
        rw [← Hst.out, ← intCells_snoc]; exact hown1
      case measure => simp [intOf]; omega
    · obtain rfl : i = l.length := by omega
      obtain ⟨g, cap, rfl, hcap, hcm⟩ := own_form hown (by omega)
      have hgN := (hown.lt g rfl).1
      have Hlab := Lib.hid (ownRow_lab hown); have HgN := Lib.hid hgN; have Hb := Lib.hid hb
      clear hown hgN hb
      go_wp2
      go_loopw [5] (fun iv wr => ∃ i : Nat, i ≤ l.length ∧ iv = .int .i64 i ∧ Hid (Below N w wr) ∧ Hid (∃ u d, Lab wr g u l.length ∧ Cls.Up u (Cls.mergeAll (Mp.pairsTo l i)) d l.length)) (fun iv _ => l.length - (intOf iv).toNat)
      case atStart => exact ⟨0, by omega, rfl, Hb, Lib.hid ⟨id, _, Hlab.out, Cls.Up.start _⟩⟩
      case round =>
        clear Hb Hlab
        obtain ⟨i, hi, rfl, hb, hk⟩ := hrel
        by_cases hlti : i < l.length
        · obtain ⟨u, d, hlab, hup⟩ := hk.out
          have hml := Mp.mate_lt HM.out.2.2.1 hlti
          have hal := Mp.at_lt HM.out.2.2.2 hlti
          have hup1 := hup.link (p := (i, Mp.at_ l i)) hlti hal
          have hca := hup.ok.lt i hlti
          have hca1 := hup1.ok.lt i hlti
          have hup2 := hup1.link (p := (i, Mp.mate i)) hlti hml
          rw [Mp.ring_snoc1] at hup2
          obtain ⟨b, o, rfl, hrd⟩ := Hread.out i hlti
          have hcell := hrd wr hb.out
          have hfx := fun W h => spec_l3Find (some ⟨g, 0, none⟩) cap l.length u _ d i (i : Int) rfl W h hup hlti (by omega)
          have hfy := fun W h => spec_l3Find (some ⟨g, 0, none⟩) cap l.length u _ d (Mp.at_ l i) ((Mp.at_ l i : Nat) : Int) rfl W h hup hal (by omega)
          have hfx1 := fun W h => spec_l3Find (some ⟨g, 0, none⟩) cap l.length _ _ _ i (i : Int) rfl W h hup1 hlti (by omega)
          have hfy1 := fun W h => spec_l3Find (some ⟨g, 0, none⟩) cap l.length _ _ _ (Mp.mate i) ((Mp.mate i : Nat) : Int) rfl W h hup1 hml (by omega)
          have hmt := fun W => spec_l6Mate i (i : Int) rfl W (by omega)
          have hput := (hlab.drewN 1).put (b := Cls.mergeAll (Mp.pairsTo l i) (Mp.at_ l i)) hca
          have hput1 := hput.put (b := Cls.merge (Cls.mergeAll (Mp.pairsTo l i)) (i, Mp.at_ l i) (Mp.mate i)) hca1
          have hdst := hlab.cell hca
          have hdst1 := hput.cell hca1
          have hfz := hlab.frozen (Cls.mergeAll (Mp.pairsTo l i) i)
          have hfz1 := hput.frozen (Cls.merge (Cls.mergeAll (Mp.pairsTo l i)) (i, Mp.at_ l i) i)
          have hrow := hlab.row
          have hrow1 := hput.row
          have hb1 := (below_drewN hb.out 1).setCell (p := ⟨g, Cls.mergeAll (Mp.pairsTo l i) i, none⟩) HgN.out (.int .i64 ((Cls.mergeAll (Mp.pairsTo l i) (Mp.at_ l i) : Nat) : Int))
          have hb2 := hb1.setCell (p := ⟨g, Cls.merge (Cls.mergeAll (Mp.pairsTo l i)) (i, Mp.at_ l i) i, none⟩) HgN.out (.int .i64 ((Cls.merge (Cls.mergeAll (Mp.pairsTo l i)) (i, Mp.at_ l i) (Mp.mate i) : Nat) : Int))
          have hup3 : ∀ d2, Cls.Up _ _ d2 l.length → Hid (∃ d, Cls.Up (fun k => if k = Cls.merge (Cls.mergeAll (Mp.pairsTo l i)) (i, Mp.at_ l i) i then Cls.merge (Cls.mergeAll (Mp.pairsTo l i)) (i, Mp.at_ l i) (Mp.mate i) else (fun k => if k = Cls.mergeAll (Mp.pairsTo l i) i then Cls.mergeAll (Mp.pairsTo l i) (Mp.at_ l i) else u k) k) (Cls.mergeAll (Mp.pairsTo l (i + 1))) d l.length) := fun d2 h => Lib.hid ⟨d2, h⟩
          have Hup3 := hup3 _ hup2
          clear hup3 hup2 hup1 hup hb2
          generalize hra1 : Cls.merge (Cls.mergeAll (Mp.pairsTo l i)) (i, Mp.at_ l i) i = ra1 at *
          generalize Cls.merge (Cls.mergeAll (Mp.pairsTo l i)) (i, Mp.at_ l i) (Mp.mate i) = rb1 at *
          generalize Cls.mergeAll (Mp.pairsTo l i) i = ra at *
          generalize Cls.mergeAll (Mp.pairsTo l i) (Mp.at_ l i) = rb at *
          generalize Mp.at_ l i = y at *
          generalize Mp.mate i = m at *
          generalize (if ra1 = ra then rb else u ra1) = z1 at hdst1
          generalize u ra = z at hdst
          have hc0 : (0 : Int) ≤ (ra : Int) := by omega
          have hc1 : (ra : Int) < (l.length : Int) := by omega
          have hd0 : (0 : Int) ≤ (ra1 : Int) := by omega
          have hd1 : (ra1 : Int) < (l.length : Int) := by omega
          have hi0 : (0 : Int) ≤ (i : Int) := by omega
          have hi1 : (i : Int) < (l.length : Int) := by omega
          have Hfx := Lib.hid hfx; have Hfy := Lib.hid hfy; have Hfx1 := Lib.hid hfx1; have Hfy1 := Lib.hid hfy1; have Hmt := Lib.hid hmt
          have Hput1 := Lib.hid hput1; have Hrow := Lib.hid hrow; have Hrow1 := Lib.hid hrow1; have Hb1 := Lib.hid hb1
          clear hfx hfy hfx1 hfy1 hmt hput hput1 hrow hrow1 hb1 hlab hrd hk hra1
          go_wp2
          go_still_tail 11, (by kernel_rfl)
          still_call (Hfx.out _ Hrow.out)
          repeat still_step
          still_call (Hfy.out _ Hrow.out)
          repeat still_step
          refine wpStill_nil ?_
          change wpList _ _ _ _ _ wr.drew
          go_wp2_with fail
          refine (Hfx1.out _ Hrow1.out).mono ?_
          rintro e w2 ⟨rfl, rfl⟩
          go_wp2_with fail
          refine (Hmt.out _).mono ?_
          rintro e w2 ⟨rfl, hw2⟩
          rw [hw2]; clear hw2
          go_wp2_with fail
          refine (Hfy1.out _ Hrow1.out).mono ?_
          rintro e w3 ⟨rfl, hw3⟩
          rw [hw3]; clear hw3
          go_wp2
          go_roundw
          case rel =>
            obtain ⟨d', hd'⟩ := Hup3.out
            exact ⟨i + 1, by omega, by go_num, Lib.hid (Hb1.out.setCell HgN.out _), Lib.hid ⟨_, d', Hput1.out, hd'⟩⟩
          case measure => simp [intOf]; omega
        · obtain rfl : i = l.length := by omega
          obtain ⟨u, d, hlab, hup⟩ := hk.out
          have Hup := Lib.hid (show Cls.Up u (Mp.ring l) d l.length from hup); have Hlab := Lib.hid hlab; have Hb := hb
          have Hv2 : Hid (((Cls.tally (Mp.ring l) (List.range l.length) : Nat) : Int) = V) := Hv
          clear hup hlab hk hb
          generalize Mp.ring l = rg at *
          go_wp2
          go_loopw [6, 7] (fun sv kv w2 => ∃ k : Nat, k ≤ l.length ∧ kv = .int .i64 k ∧ sv = .int .i64 ((Cls.tally rg (List.range k) : Nat) : Int) ∧ w2 = wr) (fun _ kv _ => l.length - (intOf kv).toNat)
          case atStart => exact ⟨0, by omega, rfl, rfl, rfl⟩
          case round =>
            obtain ⟨k, hk, rfl, rfl, rfl⟩ := hrel
            by_cases hltk : k < l.length
            · have hcell := Hlab.out.cell hltk
              have hroot := Hup.out.root k hltk
              have hst : Cls.tally rg (List.range (k + 1)) = Cls.tally rg (List.range k) + (if rg k = k then 1 else 0) := by rw [List.range_succ, Cls.tally_snoc]
              have htl := Cls.tally_le rg (List.range k)
              rw [List.length_range] at htl
              generalize u k = uk at *
              obtain ⟨b1, hb1⟩ : ∃ b1, ((uk : Int) == (k : Int)) = b1 := ⟨_, rfl⟩
              have ht1 : (((if rg k = k then 1 else 0) : Nat) : Int) = if b1 then 1 else 0 := by
                subst hb1
                by_cases h : uk = k
                · rw [if_pos (hroot.1 h), if_pos (by simp; omega)]; rfl
                · rw [if_neg (fun hh => h (hroot.2 hh)), if_neg (by simp; omega)]; rfl
              have hn1 : (if rg k = k then 1 else 0 : Nat) ≤ 1 := by split <;> omega
              generalize (if rg k = k then 1 else 0 : Nat) = n1 at *
              generalize Cls.tally rg (List.range k) = S at *
              generalize hS' : Cls.tally rg (List.range (k + 1)) = S' at *
              have hbit := fun W => map_l1Bit b1 W
              rw [← ht1] at hbit
              have Hbit := Lib.hid hbit; have HS' := Lib.hid hS'; have Hst := Lib.hid hst
              clear ht1 hbit hroot hst hS'
              go_wp2_with fail
              refine (Hbit.out _).mono ?_
              rintro e w2 ⟨rfl, rfl⟩
              go_wp2
              go_roundw
              case rel => exact ⟨k + 1, by omega, by go_num, by rw [HS'.out, Hst.out]; go_num, trivial⟩
              case measure => simp [intOf]; omega
            · obtain rfl : k = l.length := by omega
              go_wp2
              go_ret
              exact ⟨by rw [← Hv2.out]; rfl, Hb.out⟩


set_option maxRecDepth 10000 in
set_option maxHeartbeats 4000000 in
theorem impl_countParts (p lo : Nat) (l : List Int) (w : World) (h : MapAt w lo p (Mp.at_ l) l.length) (hM : Mp.IsM l) :
    Calls Try.prog 66 #[.pointer (some ⟨p, 0, none⟩)] w fun e w' => e = .returned (.int .i64 ((Mp.parts l : Nat) : Int)) ∧ Below w.heap.size w w' := by
  obtain ⟨g, cap, hcell0, _, hcap, hcm, hpg, hlop, hp, hlog, hg, hblk, hrow⟩ := h.open
  have hn : l.length ≤ 24 := hM.2.1
  have h2 : 2 ≤ l.length := hM.1
  have hnew := impl_newClasses l.length w (by omega)
  have hreadp : ∀ W, Below w.heap.size w W → W.cell? ⟨p, 0, none⟩ = some (.slice (some ⟨g, 0, none⟩) l.length cap) := fun W hW => by rw [hW.cell (p := ⟨p, 0, none⟩) hp]; exact hcell0
  have hread : ∀ d, d < l.length → ∀ W, Below w.heap.size w W → W.cell? ⟨g, d, none⟩ = some (.int .i64 ((Mp.at_ l d : Nat) : Int)) := fun d hd W hW => by
    rw [hW.cell (p := ⟨g, d, none⟩) hg]; exact ownRow_cell hrow hd
  have hin : ∀ m ∈ Mp.natsOf l, m < l.length := fun m hm => by
    obtain ⟨x, hx, rfl⟩ := List.mem_map.1 hm
    have := hM.2.2.2.1 x hx; omega
  have hnl : (Mp.natsOf l).length = l.length := by simp [Mp.natsOf]
  have hcount := fun gc cc W (hc : RowAt W (some ⟨gc, 0, none⟩) (intCells (Cls.row (Mp.ring l) l.length))) (hm : RowAt W (some ⟨g, 0, none⟩) (intCells (intsOf (Mp.natsOf l)))) => impl_countClasses (some ⟨gc, 0, none⟩) (some ⟨g, 0, none⟩) cc cap l.length (Mp.ring l) (Mp.natsOf l) W hc hm hin (by omega) (by omega)
  rw [hnl, ← Mp.parts_found hM] at hcount
  have hrow2 : ∀ W, Below w.heap.size w W → RowAt W (some ⟨g, 0, none⟩) (intCells (intsOf (Mp.natsOf l))) := fun W hW => by
    have := (MapAt.row hrow).below hW
    rw [Mp.at_row hM.2.2.2] at this
    rw [show intsOf (Mp.natsOf l) = l from Mp.natsOf_row hM.2.2.2]; exact this
  obtain ⟨V, hv⟩ : ∃ V, ((Mp.parts l : Nat) : Int) = V := ⟨_, rfl⟩
  rw [hv] at hcount ⊢
  generalize hN : w.heap.size = N at *
  have HN := Lib.hid hN
  have HM := Lib.hid hM; have Hread := Lib.hid hread; have Hreadp := Lib.hid hreadp; have Hcount := Lib.hid hcount; have Hrow2 := Lib.hid hrow2; have Hnew := Lib.hid hnew
  clear hM hv hread hreadp hcount hrow2 hnew h hblk hrow hin hnl
  go_enter Try.func66, Try.ntmps66
  go_wp2_with fail
  refine Hnew.out.mono ?_
  rintro e w1 ⟨rfl, hlab, hb1⟩
  have hp1 := Hreadp.out w1 hb1
  have Hlab := Lib.hid hlab; have Hb1 := Lib.hid hb1
  clear hlab hb1
  go_wp2
  go_loopw [4, 5, 17] (fun _ _ iv wr => ∃ i : Nat, i ≤ l.length ∧ iv = .int .i64 i ∧ Hid (Below N w wr) ∧ Hid (Lab wr N (Cls.mergeAll (Mp.pairsTo l i)) l.length)) (fun _ _ iv _ => l.length - (intOf iv).toNat)
  case atStart => exact ⟨0, by omega, rfl, Hb1, Hlab⟩
  case round =>
    clear Hb1 Hlab
    obtain ⟨i, hi, rfl, hb, hk⟩ := hrel
    by_cases hlt : i < l.length
    · have hfc := Hread.out i hlt wr hb.out
      have hal := Mp.at_lt HM.out.2.2.2 hlt
      have hml := Mp.mate_lt HM.out.2.2.1 hlt
      have hm1 := fun za zb h1 h2 W hg => impl_mergeClasses N l.length l.length (Cls.mergeAll (Mp.pairsTo l i)) i (Mp.at_ l i) za zb h1 h2 W hg hlt hal (by omega)
      have hm2 := fun za zb h1 h2 W hg => impl_mergeClasses N l.length l.length (Cls.merge (Cls.mergeAll (Mp.pairsTo l i)) (i, Mp.at_ l i)) i (Mp.mate i) za zb h1 h2 W hg hlt hml (by omega)
      rw [Mp.ring_snoc1] at hm2
      have hmt := fun W => impl_mateOf i (i : Int) rfl W (by omega)
      have Hm1 := Lib.hid hm1; have Hm2 := Lib.hid hm2; have Hmt := Lib.hid hmt
      clear hm1 hm2 hmt
      generalize Mp.at_ l i = y at *
      generalize Mp.mate i = m at *
      go_wp2_with fail
      refine (Hm1.out _ _ rfl rfl _ hk.out).mono ?_
      rintro e w2 ⟨rfl, hk2, hg2⟩
      have Hk2 := Lib.hid hk2
      have Hb2 := Lib.hid (hb.out.grown hg2 (by have := hb.out.size; rw [HN.out] at this; exact this) (fun k hk => by have : k = N := (Option.some.inj hk).symm; omega))
      clear hk2 hg2
      go_wp2_with fail
      refine (Hmt.out _).mono ?_
      rintro e w3 ⟨rfl, rfl⟩
      go_wp2_with fail
      refine (Hm2.out _ _ rfl rfl _ Hk2.out).mono ?_
      rintro e w4 ⟨rfl, hk4, hg4⟩
      have Hk4 := Lib.hid hk4
      have Hb4 := Lib.hid (Hb2.out.grown hg4 (by have := Hb2.out.size; rw [HN.out] at this; exact this) (fun k hk => by have : k = N := (Option.some.inj hk).symm; omega))
      clear hk4 hg4
      go_wp2
      go_roundw
      case rel => exact ⟨i + 1, by omega, by go_num, Hb4, Hk4⟩
      case measure => simp [intOf]; omega
    · obtain rfl : i = l.length := by omega
      have hp2 := Hreadp.out wr hb.out
      have Hc := Lib.hid (Hcount.out N l.length wr (show RowAt wr (some ⟨N, 0, none⟩) (intCells (Cls.row (Mp.ring l) l.length)) from hk.out.row) (Hrow2.out wr hb.out))
      go_wp2_with fail
      refine Hc.out.mono ?_
      rintro e w2 ⟨rfl, hb2⟩
      have hNw : N ≤ wr.heap.size := by have := hb.out.size; rw [HN.out] at this; exact this
      go_wp2
      go_ret
      exact ⟨rfl, hb.out.trans (hb2.mono hNw)⟩

end Go.Proofs.Ytpgdmbolckogcaa
