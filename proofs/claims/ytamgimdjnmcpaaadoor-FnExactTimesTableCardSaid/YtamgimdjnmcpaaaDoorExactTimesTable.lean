/-
  At every argument the program's TimesTable returns what the model returns, writes into no argument, and its answer owns its memory.
-/
import Derived.Test.YtamgimdjnmcpaaaDoorCards
import Derived.Test.YtamgimdjnmcpaaaDoorTie
import Derived.Test.YtamgimdjnmcpaaaDoorBase
import Derived.Test.YtamgimdjnmcpaaaDoorLow
import Derived.Test.YtamgimdjnmcpaaaDoorDoorLow
import Derived.Test.YtamgimdjnmcpaaaDoorSlice
import Derived.Test.YtamgimdjnmcpaaaDoorIntRow
import Derived.Test.YtamgimdjnmcpaaaDoorInts
import Derived.Test.YtamgimdjnmcpaaaDoorOwn
import Derived.Test.YtamgimdjnmcpaaaDoorGrid
import Derived.Test.YtamgimdjnmcpaaaDoorGridWalk
import Derived.Test.YtamgimdjnmcpaaaDoorGridWalk2
import Derived.Test.YtamgimdjnmcpaaaDoorGridMark
import Derived.Test.YtamgimdjnmcpaaaDoorReadInts
import Derived.Test.YtamgimdjnmcpaaaDoorTw
import Derived.Test.YtamgimdjnmcpaaaDoorTwErr
import Derived.Test.YtamgimdjnmcpaaaDoorTwG
import Derived.Test.YtamgimdjnmcpaaaDoorAdTw
import Derived.Deep.DeepWitnessRowRef
import Derived.OpenShut
import Derived.Deep.DeepHandedRow
import Derived.LaidMore
import Derived.Stop.LaidErr
namespace Go.Proofs.YtamgimdjnmcpaaaDoor.fnExactTimesTable
open Go.ChangeShapes Go.WideShapes Go.ChangeAt Go.RowKit Go.Sort
open Go.ChangeMaps (open_string)

set_option maxRecDepth 10000 in
set_option maxHeartbeats 2000000 in
theorem law (aS : Option Addr) (cS : Nat) (LS : List (List Int)) (aT : Option Addr) (cT : Nat) (LT : List (List Int)) (w : World) (hhS : GridAt w aS LS ∧ LS.length ≤ maxLen ∧ (∀ r ∈ LS, r.length ≤ maxLen) ∧ ∀ r ∈ LS, I64s r) (hhT : GridAt w aT LT ∧ LT.length ≤ maxLen ∧ (∀ r ∈ LT, r.length ≤ maxLen) ∧ ∀ r ∈ LT, I64s r) (hsh : Errs w) :
    Calls Tryd.prog 9 #[.slice aS LS.length cS, .slice aT LT.length cT] w fun e w' => e = .returned (.bool true) ∧ Below w.heap.size w w' := by
  have hZB0 := Below.refl w.heap.size w
  have hsh := Lib.hid hsh
  obtain ⟨hAS, hmS, hrS, hIS⟩ := hhS
  have hAS := Lib.hid hAS
  have hIS := Lib.hid hIS
  have hMS := Lib.hid (show LS.length ≤ 9223372036854775807 ∧ ∀ r ∈ LS, r.length ≤ 9223372036854775807 from ⟨hmS, hrS⟩); clear hrS
  unfold maxLen at hmS
  obtain ⟨hAT, hmT, hrT, hIT⟩ := hhT
  have hAT := Lib.hid hAT
  have hIT := Lib.hid hIT
  have hMT := Lib.hid (show LT.length ≤ 9223372036854775807 ∧ ∀ r ∈ LT, r.length ≤ 9223372036854775807 from ⟨hmT, hrT⟩); clear hrT
  unfold maxLen at hmT
  by_cases hfS : tot LS ≤ 1048576
  · skip
    have hLS := Lib.hid (show tot LS ≤ 1048576 by omega)
    have hFS := Lib.hid hfS; clear hfS
    have hSS := Lib.hid (show sumLen LS ≤ 1048576 by have := hLS.out; unfold tot at this; omega)
    have hTS : LS.length ≤ 1048576 := by have := hLS.out; unfold tot at this; omega
    by_cases hfT : tot LT ≤ (1048576 - tot LS)
    · skip
      have hLT := Lib.hid (show tot LT ≤ 1048576 by omega)
      have hFT := Lib.hid hfT; clear hfT
      have hST := Lib.hid (show sumLen LT ≤ 1048576 by have := hLT.out; unfold tot at this; omega)
      have hTT : LT.length ≤ 1048576 := by have := hLT.out; unfold tot at this; omega
      have hZN0 := Lib.hid ((Tw.times_few LS LT).tot : tot (Tw.times LS LT) ≤ 1000000)
      have c_spec := fun (aaS : Option Addr) (ccS : Nat) (aaT : Option Addr) (ccT : Nat) (W : World) (hrS : GridAt W aaS LS) (hrT : GridAt W aaT LT) => spec_TimesTable aaS ccS LS aaT ccT LT W hrS hLS.out hrT hLT.out
      have c_impl := fun (aaS : Option Addr) (ccS : Nat) (aaT : Option Addr) (ccT : Nat) (W : World) (hsW : Errs W) (hrS : GridAt W aaS LS) (hrT : GridAt W aaT LT) => impl_TimesTable aaS ccS LS aaT ccT LT W hsW hrS hLS.out hrT hLT.out
      generalize hV0 : Tw.times LS LT = R0 at *
      clear hV0
      generalize hV1 : (decide (Tw.TimesOk LS LT)) = S1 at *
      clear hV1
      have hQ0 := Lib.hid (show sumLen R0 ≤ 1000000 by have := hZN0.out; unfold tot at this; omega)
      have Hs := Lib.hid c_spec; have Hi := Lib.hid c_impl; clear c_spec c_impl
      go_enter Tryd.func9, Tryd.ntmps9
      go_wp2_with fail
      refine (szIntSS_fit aS cS 1048576 LS w (hAS.out.below hZB0) hMS.out (by omega) hFS.out).mono ?_
      rintro e w1 ⟨rfl, h1⟩
      have h2 := Lib.hid (h1.size)
      have hZB3 : Below w.heap.size w w1 := hZB0.trans (h1.mono hZB0.size)
      clear h1
      go_wp2_with fail
      refine (szIntSS_fit aT cT (1048576 - tot LS) LT w1 (hAT.out.below hZB3) hMT.out (by omega) hFT.out).mono ?_
      rintro e w2 ⟨rfl, h4⟩
      have h5 := Lib.hid (h4.size)
      have hZB6 : Below w.heap.size w w2 := hZB3.trans (h4.mono hZB3.size)
      clear h4
      go_wp2_with fail
      refine (toIntSS aS cS LS w2 (hAS.out.below hZB6) hLS.out).mono ?_
      rintro e w3 ⟨rfl, h8, h9⟩
      have h10 := Lib.hid (h8); clear h8
      have h11 := Lib.hid (h9.size)
      have hZB12 : Below w.heap.size w w3 := hZB6.trans (h9.mono hZB6.size)
      clear h9
      go_wp2_with fail
      refine (toIntSS aT cT LT w3 (hAT.out.below hZB12) hLT.out).mono ?_
      rintro e w4 ⟨rfl, h14, h15⟩
      have h16 := Lib.hid (h14); clear h14
      have h17 := Lib.hid (h15.size)
      have hZB18 : Below w.heap.size w w4 := hZB12.trans (h15.mono hZB12.size)
      have h19 := Lib.hid (h10.out.below h15); clear h10
      clear h15
      go_wp2_with fail
      refine (Hs.out (some ⟨w2.heap.size, 0, none⟩) LS.length (some ⟨w3.heap.size, 0, none⟩) LT.length w4 h19.out.grid h16.out.grid).mono ?_
      rintro e w5 ⟨ra21, rc22, rfl, _, _, hf23, h20⟩
      have h24 := Lib.hid (hf23.grid); clear hf23
      have h25 := Lib.hid (h20.size)
      have hZB26 : Below w.heap.size w w5 := hZB18.trans (h20.mono hZB18.size)
      have h27 := Lib.hid (h19.out.below h20); clear h19
      have h28 := Lib.hid (h16.out.below h20); clear h16
      clear h20
      have h29 := Lib.hid (Below.refl w5.heap.size w5)
      clear h27
      clear h28
      go_wp2_with fail
      refine (toIntSS aS cS LS w5 (hAS.out.below hZB26) hLS.out).mono ?_
      rintro e w6 ⟨rfl, h30, h31⟩
      have h32 := Lib.hid (h30); clear h30
      have h33 := Lib.hid (h31.size)
      have hZB34 : Below w.heap.size w w6 := hZB26.trans (h31.mono hZB26.size)
      have h35 := Lib.hid (h29.out.trans (h31.mono h29.out.size)); clear h29
      clear h31
      go_wp2_with fail
      refine (toIntSS aT cT LT w6 (hAT.out.below hZB34) hLT.out).mono ?_
      rintro e w7 ⟨rfl, h36, h37⟩
      have h38 := Lib.hid (h36); clear h36
      have h39 := Lib.hid (h37.size)
      have hZB40 : Below w.heap.size w w7 := hZB34.trans (h37.mono hZB34.size)
      have h41 := Lib.hid (h35.out.trans (h37.mono h35.out.size)); clear h35
      have h42 := Lib.hid (h32.out.below h37); clear h32
      clear h37
      go_wp2_with fail
      refine (Hi.out (some ⟨w5.heap.size, 0, none⟩) LS.length (some ⟨w6.heap.size, 0, none⟩) LT.length w7 (Errs.keeps hsh.out hZB40) h42.out.grid h38.out.grid).mono ?_
      rintro e w8 ⟨ra44, rc45, rfl, _, _, hf46, h43⟩
      have h47 := Lib.hid (hf46); clear hf46
      have h48 := Lib.hid (h43.size)
      have hZB49 : Below w.heap.size w w8 := hZB40.trans (h43.mono hZB40.size)
      have h50 := Lib.hid (h41.out.trans (h43.mono h41.out.size)); clear h41
      have h51 := Lib.hid (h42.out.below h43); clear h42
      have h52 := Lib.hid (h38.out.below h43); clear h38
      clear h43
      go_wp2_with fail
      refine (eqIntSS ra44 ra21 rc45 rc22 R0 w8 h47.out.grid (h24.out.below h50.out) (Nat.le_trans hZN0.out (by decide))).mono ?_
      rintro e w9 ⟨rfl, h53⟩
      have h54 := Lib.hid (h53.size)
      have hZB55 : Below w.heap.size w w9 := hZB49.trans (h53.mono hZB49.size)
      have h56 := Lib.hid (h50.out.trans (h53.mono h50.out.size)); clear h50
      have h57 := Lib.hid (h51.out.below h53); clear h51
      have h58 := Lib.hid (h52.out.below h53); clear h52
      have h59 := Lib.hid (h47.out.below h53); clear h47
      clear h53
      go_wp2_with fail
      refine (toIntSS aS cS LS w9 (hAS.out.below hZB55) hLS.out).mono ?_
      rintro e w10 ⟨rfl, h61, h62⟩
      have h63 := Lib.hid (h61); clear h61
      have h64 := Lib.hid (h62.size)
      have hZB65 : Below w.heap.size w w10 := hZB55.trans (h62.mono hZB55.size)
      have h66 := Lib.hid (h56.out.trans (h62.mono h56.out.size)); clear h56
      have h67 := Lib.hid (h57.out.below h62); clear h57
      have h68 := Lib.hid (h58.out.below h62); clear h58
      have h69 := Lib.hid (h59.out.below h62); clear h59
      clear h62
      go_wp2_with fail
      refine (eqIntSS (some ⟨w5.heap.size, 0, none⟩) (some ⟨w9.heap.size, 0, none⟩) LS.length LS.length LS w10 h67.out.grid h63.out.grid (Nat.le_trans hLS.out (by decide))).mono ?_
      rintro e w11 ⟨rfl, h70⟩
      have h71 := Lib.hid (h70.size)
      have hZB72 : Below w.heap.size w w11 := hZB65.trans (h70.mono hZB65.size)
      have h73 := Lib.hid (h66.out.trans (h70.mono h66.out.size)); clear h66
      have h74 := Lib.hid (h67.out.below h70); clear h67
      have h75 := Lib.hid (h68.out.below h70); clear h68
      have h76 := Lib.hid (h63.out.below h70); clear h63
      have h77 := Lib.hid (h69.out.below h70); clear h69
      clear h70
      clear h76
      go_wp2_with fail
      refine (toIntSS aT cT LT w11 (hAT.out.below hZB72) hLT.out).mono ?_
      rintro e w12 ⟨rfl, h79, h80⟩
      have h81 := Lib.hid (h79); clear h79
      have h82 := Lib.hid (h80.size)
      have hZB83 : Below w.heap.size w w12 := hZB72.trans (h80.mono hZB72.size)
      have h84 := Lib.hid (h73.out.trans (h80.mono h73.out.size)); clear h73
      have h85 := Lib.hid (h74.out.below h80); clear h74
      have h86 := Lib.hid (h75.out.below h80); clear h75
      have h87 := Lib.hid (h77.out.below h80); clear h77
      clear h80
      go_wp2_with fail
      refine (eqIntSS (some ⟨w6.heap.size, 0, none⟩) (some ⟨w11.heap.size, 0, none⟩) LT.length LT.length LT w12 h86.out.grid h81.out.grid (Nat.le_trans hLT.out (by decide))).mono ?_
      rintro e w13 ⟨rfl, h88⟩
      have h89 := Lib.hid (h88.size)
      have hZB90 : Below w.heap.size w w13 := hZB83.trans (h88.mono hZB83.size)
      have h91 := Lib.hid (h84.out.trans (h88.mono h84.out.size)); clear h84
      have h92 := Lib.hid (h85.out.below h88); clear h85
      have h93 := Lib.hid (h86.out.below h88); clear h86
      have h94 := Lib.hid (h81.out.below h88); clear h81
      have h95 := Lib.hid (h87.out.below h88); clear h87
      clear h88
      clear h94
      go_wp2_with fail
      refine (markIntSS (some ⟨w5.heap.size, 0, none⟩) LS.length 1 w5.heap.size w6.heap.size LS w13 h92.out (by have := h2.out; have := h5.out; have := h11.out; have := h17.out; have := h25.out; have := h33.out; have := h39.out; have := h48.out; have := h54.out; have := h64.out; have := h71.out; have := h82.out; have := h89.out; have := hSS.out; have := hST.out; have := hQ0.out; omega) (Nat.le_trans hLS.out (by decide))).mono ?_
      rintro e w14 ⟨rfl, h97, h96⟩
      have hZB98 : Below w.heap.size w w14 := hZB90.trans (h96.below (by have := h2.out; have := h5.out; have := h11.out; have := h17.out; have := h25.out; have := h33.out; have := h39.out; have := h48.out; have := h54.out; have := h64.out; have := h71.out; have := h82.out; have := h89.out; have := hSS.out; have := hST.out; have := hQ0.out; omega) hZB90.size)
      have h99 := Lib.hid (h91.out.trans (h96.below (by have := h2.out; have := h5.out; have := h11.out; have := h17.out; have := h25.out; have := h33.out; have := h39.out; have := h48.out; have := h54.out; have := h64.out; have := h71.out; have := h82.out; have := h89.out; have := hSS.out; have := hST.out; have := hQ0.out; omega) h91.out.size)); clear h91
      have h100 := Lib.hid (h93.out.only h96 (by have := h2.out; have := h5.out; have := h11.out; have := h17.out; have := h25.out; have := h33.out; have := h39.out; have := h48.out; have := h54.out; have := h64.out; have := h71.out; have := h82.out; have := h89.out; have := hSS.out; have := hST.out; have := hQ0.out; omega)); clear h93
      have h101 := Lib.hid (h95.out.only h96 (by have := h2.out; have := h5.out; have := h11.out; have := h17.out; have := h25.out; have := h33.out; have := h39.out; have := h48.out; have := h54.out; have := h64.out; have := h71.out; have := h82.out; have := h89.out; have := hSS.out; have := hST.out; have := hQ0.out; omega)); clear h95
      have h102 := Lib.hid (h96.size)
      clear h96 h92
      clear h97
      go_wp2_with fail
      refine (markIntSS (some ⟨w6.heap.size, 0, none⟩) LT.length (1 + sumLen LS) w6.heap.size w7.heap.size LT w14 h100.out (by have := h2.out; have := h5.out; have := h11.out; have := h17.out; have := h25.out; have := h33.out; have := h39.out; have := h48.out; have := h54.out; have := h64.out; have := h71.out; have := h82.out; have := h89.out; have := h102.out; have := hSS.out; have := hST.out; have := hQ0.out; omega) (Nat.le_trans hLT.out (by decide))).mono ?_
      rintro e w15 ⟨rfl, h104, h103⟩
      have hZB105 : Below w.heap.size w w15 := hZB98.trans (h103.below (by have := h2.out; have := h5.out; have := h11.out; have := h17.out; have := h25.out; have := h33.out; have := h39.out; have := h48.out; have := h54.out; have := h64.out; have := h71.out; have := h82.out; have := h89.out; have := h102.out; have := hSS.out; have := hST.out; have := hQ0.out; omega) hZB98.size)
      have h106 := Lib.hid (h99.out.trans (h103.below (by have := h2.out; have := h5.out; have := h11.out; have := h17.out; have := h25.out; have := h33.out; have := h39.out; have := h48.out; have := h54.out; have := h64.out; have := h71.out; have := h82.out; have := h89.out; have := h102.out; have := hSS.out; have := hST.out; have := hQ0.out; omega) h99.out.size)); clear h99
      have h107 := Lib.hid (h101.out.only h103 (by have := h2.out; have := h5.out; have := h11.out; have := h17.out; have := h25.out; have := h33.out; have := h39.out; have := h48.out; have := h54.out; have := h64.out; have := h71.out; have := h82.out; have := h89.out; have := h102.out; have := hSS.out; have := hST.out; have := hQ0.out; omega)); clear h101
      have h108 := Lib.hid (h103.size)
      clear h103 h100
      clear h104
      go_wp2_with fail
      refine (eqIntSS ra44 ra21 rc45 rc22 R0 w15 h107.out.grid (h24.out.below h106.out) (Nat.le_trans hZN0.out (by decide))).mono ?_
      rintro e w16 ⟨rfl, h109⟩
      have h110 := Lib.hid (h109.size)
      have hZB111 : Below w.heap.size w w16 := hZB105.trans (h109.mono hZB105.size)
      have h112 := Lib.hid (h106.out.trans (h109.mono h106.out.size)); clear h106
      have h113 := Lib.hid (h107.out.below h109); clear h107
      clear h109
      go_wp2_with fail
      refine (markIntSS ra44 rc45 1 w7.heap.size w8.heap.size R0 w16 h113.out (by have := h2.out; have := h5.out; have := h11.out; have := h17.out; have := h25.out; have := h33.out; have := h39.out; have := h48.out; have := h54.out; have := h64.out; have := h71.out; have := h82.out; have := h89.out; have := h102.out; have := h108.out; have := h110.out; have := hSS.out; have := hST.out; have := hQ0.out; omega) (Nat.le_trans hZN0.out (by decide))).mono ?_
      rintro e w17 ⟨rfl, h115, h114⟩
      have hZB116 : Below w.heap.size w w17 := hZB111.trans (h114.below (by have := h2.out; have := h5.out; have := h11.out; have := h17.out; have := h25.out; have := h33.out; have := h39.out; have := h48.out; have := h54.out; have := h64.out; have := h71.out; have := h82.out; have := h89.out; have := h102.out; have := h108.out; have := h110.out; have := hSS.out; have := hST.out; have := hQ0.out; omega) hZB111.size)
      have h117 := Lib.hid (h112.out.trans (h114.below (by have := h2.out; have := h5.out; have := h11.out; have := h17.out; have := h25.out; have := h33.out; have := h39.out; have := h48.out; have := h54.out; have := h64.out; have := h71.out; have := h82.out; have := h89.out; have := h102.out; have := h108.out; have := h110.out; have := hSS.out; have := hST.out; have := hQ0.out; omega) h112.out.size)); clear h112
      have h118 := Lib.hid (h114.size)
      clear h114 h113
      have h119 := Lib.hid (h115); clear h115
      go_wp2_with fail
      refine (heldIntSS ra44 rc45 1 R0 w17 h119.out.grid (by have := h2.out; have := h5.out; have := h11.out; have := h17.out; have := h25.out; have := h33.out; have := h39.out; have := h48.out; have := h54.out; have := h64.out; have := h71.out; have := h82.out; have := h89.out; have := h102.out; have := h108.out; have := h110.out; have := h118.out; have := hSS.out; have := hST.out; have := hQ0.out; omega) (Nat.le_trans hZN0.out (by decide))).mono ?_
      rintro e w18 ⟨rfl, h120⟩
      have h121 := Lib.hid (h120.size)
      have hZB122 : Below w.heap.size w w18 := hZB116.trans (h120.mono hZB116.size)
      have h123 := Lib.hid (h117.out.trans (h120.mono h117.out.size)); clear h117
      have h124 := Lib.hid (h119.out.below h120); clear h119
      clear h120
      go_wp2_with fail
      refine (toIntSS aS cS LS w18 (hAS.out.below hZB122) hLS.out).mono ?_
      rintro e w19 ⟨rfl, h126, h127⟩
      have h128 := Lib.hid (h126); clear h126
      have h129 := Lib.hid (h127.size)
      have hZB130 : Below w.heap.size w w19 := hZB122.trans (h127.mono hZB122.size)
      have h131 := Lib.hid (h123.out.trans (h127.mono h123.out.size)); clear h123
      have h132 := Lib.hid (h124.out.below h127); clear h124
      clear h127
      go_wp2_with fail
      refine (toIntSS aT cT LT w19 (hAT.out.below hZB130) hLT.out).mono ?_
      rintro e w20 ⟨rfl, h134, h135⟩
      have h136 := Lib.hid (h134); clear h134
      have h137 := Lib.hid (h135.size)
      have hZB138 : Below w.heap.size w w20 := hZB130.trans (h135.mono hZB130.size)
      have h139 := Lib.hid (h131.out.trans (h135.mono h131.out.size)); clear h131
      have h140 := Lib.hid (h128.out.below h135); clear h128
      have h141 := Lib.hid (h132.out.below h135); clear h132
      clear h135
      go_wp2_with fail
      refine (Hi.out (some ⟨w18.heap.size, 0, none⟩) LS.length (some ⟨w19.heap.size, 0, none⟩) LT.length w20 (Errs.keeps hsh.out hZB138) h140.out.grid h136.out.grid).mono ?_
      rintro e w21 ⟨ra143, rc144, rfl, _, _, hf145, h142⟩
      have h146 := Lib.hid (hf145); clear hf145
      have h147 := Lib.hid (h142.size)
      have hZB148 : Below w.heap.size w w21 := hZB138.trans (h142.mono hZB138.size)
      have h149 := Lib.hid (h139.out.trans (h142.mono h139.out.size)); clear h139
      have h150 := Lib.hid (h140.out.below h142); clear h140
      have h151 := Lib.hid (h136.out.below h142); clear h136
      have h152 := Lib.hid (h141.out.below h142); clear h141
      clear h142
      clear h150
      clear h151
      go_wp2_with fail
      refine (eqIntSS ra143 ra21 rc144 rc22 R0 w21 h146.out.grid (h24.out.below h149.out) (Nat.le_trans hZN0.out (by decide))).mono ?_
      rintro e w22 ⟨rfl, h153⟩
      have h154 := Lib.hid (h153.size)
      have hZB155 : Below w.heap.size w w22 := hZB148.trans (h153.mono hZB148.size)
      have h156 := Lib.hid (h149.out.trans (h153.mono h149.out.size)); clear h149
      have h157 := Lib.hid (h152.out.below h153); clear h152
      have h158 := Lib.hid (h146.out.below h153); clear h146
      clear h153
      go_wp2_with fail
      refine (heldIntSS ra44 rc45 1 R0 w22 h157.out.grid (by have := h2.out; have := h5.out; have := h11.out; have := h17.out; have := h25.out; have := h33.out; have := h39.out; have := h48.out; have := h54.out; have := h64.out; have := h71.out; have := h82.out; have := h89.out; have := h102.out; have := h108.out; have := h110.out; have := h118.out; have := h121.out; have := h129.out; have := h137.out; have := h147.out; have := h154.out; have := hSS.out; have := hST.out; have := hQ0.out; omega) (Nat.le_trans hZN0.out (by decide))).mono ?_
      rintro e w23 ⟨rfl, h159⟩
      have h160 := Lib.hid (h159.size)
      have hZB161 : Below w.heap.size w w23 := hZB155.trans (h159.mono hZB155.size)
      have h162 := Lib.hid (h156.out.trans (h159.mono h156.out.size)); clear h156
      have h163 := Lib.hid (h157.out.below h159); clear h157
      have h164 := Lib.hid (h158.out.below h159); clear h158
      clear h159
      go_wp2
      go_ret
      exact ⟨rfl, hZB161⟩
    · have hLT := Lib.hid hfT
      clear hfT
      go_enter Tryd.func9, Tryd.ntmps9
      go_wp2_with fail
      refine (szIntSS_fit aS cS 1048576 LS w (hAS.out.below hZB0) hMS.out (by omega) hFS.out).mono ?_
      rintro e w1 ⟨rfl, h165⟩
      have h166 := Lib.hid (h165.size)
      have hZB167 : Below w.heap.size w w1 := hZB0.trans (h165.mono hZB0.size)
      clear h165
      go_wp2_with fail
      refine (szIntSS_big aT cT (1048576 - tot LS) LT w1 (hAT.out.below hZB167) hMT.out (by omega) hLT.out).mono ?_
      rintro e w2 ⟨rfl, h168⟩
      have h169 := Lib.hid (h168.size)
      have hZB170 : Below w.heap.size w w2 := hZB167.trans (h168.mono hZB167.size)
      clear h168
      go_wp2
      go_ret
      exact ⟨rfl, hZB170⟩
  · have hLS := Lib.hid hfS
    clear hfS
    go_enter Tryd.func9, Tryd.ntmps9
    go_wp2_with fail
    refine (szIntSS_big aS cS 1048576 LS w (hAS.out.below hZB0) hMS.out (by omega) hLS.out).mono ?_
    rintro e w1 ⟨rfl, h171⟩
    have h172 := Lib.hid (h171.size)
    have hZB173 : Below w.heap.size w w1 := hZB0.trans (h171.mono hZB0.size)
    clear h171
    go_wp2
    go_ret
    exact ⟨rfl, hZB173⟩

set_option maxRecDepth 100000 in
theorem contract (H : Type) (enc : TypeId × Value → H) (W : World) (base : Nat) (args : Array Value) (ds gs : List (DataW H)) (before : List MemPlace)
    (hval : ∀ (j : Nat) t v, Tryd.f9.params[j]? = some t → args[j]? = some v → Value.okWide Tryd.prog W .any base t v)
    (hW : DataW.Whole enc Tryd.prog Tryd.f9.params.toList Rows.fnExactTimesTableSpec.vars false W args.toList ds gs before) (hL : laidMetH Tryd.prog Rows.fnExactTimesTableRow.laid W) :
    Calls Tryd.prog 9 args W fun e W' => ∃ v, e = .returned v ∧ Rows.fnExactTimesTableSpec.post enc Tryd.prog Tryd.f9 false true false false W args v W' := by
  have hW' := hW
  obtain ⟨p, q, hA0, hV, rfl, hfz, hnd⟩ := hW
  have hA : DataW.TrodAll enc Tryd.prog W 0 (fun _ => true) true Tryd.f9.params.toList args.toList ds p := hA0
  rw [Tryd.params9] at hA hval
  obtain ⟨v0, vs0, d0, ds0, p0, q0, hargs, rfl, rfl, h0, r0⟩ := trodAll_cons hA
  obtain ⟨v1, vs1, d1, ds1, p1, q1, rfl, rfl, rfl, h1, r1⟩ := trodAll_cons r0
  obtain ⟨rfl, rfl, rfl⟩ := trodAll_nil r1
  obtain rfl : args = #[v0, v1] := by cases args; simp_all
  have hV : DataW.TrodVars enc Tryd.prog W (fun _ => true) ["loop.example/g03105/impl.errTooGreat"] gs q := hV
  obtain ⟨sa, hsv⟩ := Er.var_of hL (by rfl)
  have hvr : ∀ {X : World}, X.var? Tryd.prog "loop.example/g03105/impl.errTooGreat" = some #[.iface 100 (.pointer (some sa))] → ∀ sp : Nat → Bool, DataW.TrodVars enc Tryd.prog X sp ["loop.example/g03105/impl.errTooGreat"] [tok enc (.iface 100 (.pointer (some sa)))] [.cell 0 0] :=
    fun x0 sp => vars_read1 enc Er.gGreat Er.tGreat Tryd.underlying78 x0 trivial sp
  obtain ⟨rfl, rfl⟩ := hV.unique (hvr hsv _)
  have k0 := h0
  have k1 := h1
  obtain ⟨aS, cS, lS, rfl, wS⟩ := Read.rows_of (hval 0 31 v0 rfl rfl) h0
  obtain ⟨aT, cT, lT, rfl, wT⟩ := Read.rows_of (hval 1 31 v1 rfl rfl) h1
  clear hA0
  simp only [List.append_nil] at hW'
  refine (law aS cS lS aT cT lT W wS wT (errs_of hL (by rfl))).mono fun e W' ⟨he, hg⟩ => ?_
  subst he
  exact ⟨_, rfl, post_of_below (pv := [.cell 0 0]) hW' (fun _ _ _ => trodAll_cons_mk (shut_bool Tryd.underlying4 _) trodAll_mk0)
    (fun sp hs => trodAll_cons_mk (trod_keeps (t := 31) (by kernel_rfl) (by kernel_rfl) (by kernel_rfl) k0 hg (fun x hx => hW'.lt x (by simp_all)) (fun x hx => hs x (by simp_all))) (trodAll_cons_mk (trod_keeps (t := 31) (by kernel_rfl) (by kernel_rfl) (by kernel_rfl) k1 hg (fun x hx => hW'.lt x (by simp_all)) (fun x hx => hs x (by simp_all))) (trodAll_mk0)))
    (fun sp _ => hvr (Er.var_keeps hg Er.gGreat hsv) sp) (by simp) hg (ok_one (by kernel_rfl) rfl (okWide_bool_mk Tryd.underlying4 _))⟩

theorem laid_met (os : Os) : laidMetH Tryd.prog Rows.fnExactTimesTableRow.laid ((World.doorLaid Tryd.prog 28 os).forCall (fun _ _ => 0) ⟨#[], #[.slice none 0 0, .slice none 0 0], []⟩).memory :=
  Low.met os #[.slice none 0 0, .slice none 0 0] Rows.fnExactTimesTableRow.laid (Rows.fnExactTimesTableRow.laid.map (·.1)) (by rfl)
set_option maxRecDepth 100000 in
theorem lifted (os : Os) (started : os.Started) (H : Type) (enc : TypeId × Value → H) (F : Stop.Interp) :
    ReturnsInHanded {} Tryd.checked os 9 .any ((OpenSpec.ofChange Rows.fnExactTimesTableSpec).preRow enc Tryd.prog Tryd.f9 Rows.fnExactTimesTableRow.domain false Rows.fnExactTimesTableRow.laid) (((OpenSpec.ofChange Rows.fnExactTimesTableSpec).at F).post enc Tryd.prog Tryd.f9 false true false false) := by
  refine returnsInHanded_of_row (C := Tryd.checked) (s := OpenSpec.ofChange Rows.fnExactTimesTableSpec) Low.own started (by kernel_rfl) Tryd.func9
    (witness_row_atRef (enc := enc) (C := Tryd.checked) false (World.doorLaid Tryd.prog 28 os) #[.slice none 0 0, .slice none 0 0] (by unfold World.doorLaid; rfl) (Low.shapeB os #[.slice none 0 0, .slice none 0 0]) (Low.shapeR os #[.slice none 0 0, .slice none 0 0]) (by kernel_rfl)
      (OpenSpec.preRow_of_B rfl 8 (by kernel_rfl) (by kernel_rfl) (laid_met os))) ?_
  intro W base args ds gs before hval hW _ _ _ hL hShaped _
  exact contract H enc W base args ds gs before hval hW hL

theorem said : Rows.FnExactTimesTableSaid :=
  OpenClaim.holds_of_cond 9 Tryd.f9 rfl rfl rfl rfl rfl rfl rfl ⟨rfl, rfl, rfl, rfl, rfl⟩ rfl rfl rfl rfl rfl (by kernel_rfl) Tryd.func9 (by kernel_rfl)
    (of_decide_eq_true (by kernel_rfl)) (by unfold Func.isWrapper; first | (rw [if_pos (by decide +kernel)]; kernel_rfl) | (rw [if_neg (by decide +kernel)]; exact ⟨rfl, rfl⟩))
    (fun os started H enc _ F => by rw [OpenClaim.pre_eq_preRow]; exact lifted os started H enc F)

theorem looks (f : FuncId) (fn : Func) (hf : Tryd.pinned.checked.prog.funcNamed "loop.example/g03105/laws.FnExactTimesTable" = some f) (hfn : Tryd.pinned.checked.prog.funcs[f]? = some fn) :
    true = Tryd.pinned.checked.prog.looks [] ∧ ∀ (j : Nat) t, fn.params[j]? = some t → Tryd.pinned.checked.prog.wantsStandIn t = false := by
  obtain rfl : f = 9 := Option.some.inj ((show Tryd.prog.funcNamed "loop.example/g03105/laws.FnExactTimesTable" = some 9 by kernel_rfl).symm.trans hf) |>.symm
  obtain rfl : fn = Tryd.f9 := (Option.some.inj (Tryd.func9.symm.trans hfn)).symm
  refine ⟨by kernel_rfl, fun j t ht => ?_⟩
  rw [Tryd.params9] at ht
  have hm : t ∈ [31, 31] := by simpa using Array.mem_of_getElem? ht
  have hall : ([31, 31].all fun u => !Tryd.prog.wantsStandIn u) = true := by kernel_rfl
  exact (show Tryd.prog.wantsStandIn t = false by simpa using List.all_eq_true.1 hall t hm)

theorem card : Rows.FnExactTimesTableCardSaid :=
  Claim7.holds_tied_plain_at .later [] _ _ _ _ said (fun _ h => by cases h) (by kernel_rfl) (fun _ h => by cases h) fnExactTimesTable_row_tie rfl ⟨rfl, rfl⟩ (by kernel_rfl) rfl looks (by kernel_rfl)
end Go.Proofs.YtamgimdjnmcpaaaDoor.fnExactTimesTable
