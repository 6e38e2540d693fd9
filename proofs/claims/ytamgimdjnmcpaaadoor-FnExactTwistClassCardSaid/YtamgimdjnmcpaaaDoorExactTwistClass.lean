/-
  At every argument the program's TwistClass returns what the model returns, writes into no argument, and its answer owns its memory.
-/
import Derived.Test.YtamgimdjnmcpaaaDoorCards
import Derived.Test.YtamgimdjnmcpaaaDoorTie
import Derived.Test.YtamgimdjnmcpaaaDoorBase
import Derived.Test.YtamgimdjnmcpaaaDoorLow
import Derived.Test.YtamgimdjnmcpaaaDoorDoorLow
import Derived.Test.YtamgimdjnmcpaaaDoorSlice
import Derived.Test.YtamgimdjnmcpaaaDoorIntRow
import Derived.Test.YtamgimdjnmcpaaaDoorInts
import Derived.Test.YtamgimdjnmcpaaaDoorOwn
import Derived.Test.YtamgimdjnmcpaaaDoorGrid
import Derived.Test.YtamgimdjnmcpaaaDoorGridWalk
import Derived.Test.YtamgimdjnmcpaaaDoorGridWalk2
import Derived.Test.YtamgimdjnmcpaaaDoorGridMark
import Derived.Test.YtamgimdjnmcpaaaDoorReadInts
import Derived.Test.YtamgimdjnmcpaaaDoorTw
import Derived.Test.YtamgimdjnmcpaaaDoorTwErr
import Derived.Test.YtamgimdjnmcpaaaDoorTwG
import Derived.Test.YtamgimdjnmcpaaaDoorAdTw
import Derived.Deep.DeepWitnessRowRef
import Derived.OpenShut
import Derived.Deep.DeepHandedRow
import Derived.LaidMore
import Derived.Stop.LaidErr
namespace Go.Proofs.YtamgimdjnmcpaaaDoor.fnExactTwistClass
open Go.ChangeShapes Go.WideShapes Go.ChangeAt Go.RowKit Go.Sort
open Go.ChangeMaps (open_string)

set_option maxRecDepth 10000 in
set_option maxHeartbeats 2000000 in
theorem law (vG : Int) (hG0 : -9223372036854775808 ≤ vG) (hG1 : vG ≤ 9223372036854775807) (aC : Option Addr) (cC : Nat) (lC : List Int) (aX : Option Addr) (cX : Nat) (lX : List Int) (vK : Int) (hK0 : -9223372036854775808 ≤ vK) (hK1 : vK ≤ 9223372036854775807) (w : World) (hhC : RowAt w aC (intCells lC) ∧ lC.length ≤ maxLen ∧ I64s lC) (hhX : RowAt w aX (intCells lX) ∧ lX.length ≤ maxLen ∧ I64s lX) (hsh : Errs w) :
    Calls Tryd.prog 6 #[.int .i64 vG, .slice aC lC.length cC, .slice aX lX.length cX, .int .i64 vK] w fun e w' => e = .returned (.bool true) ∧ Below w.heap.size w w' := by
  have hZB0 := Below.refl w.heap.size w
  have hsh := Lib.hid hsh
  obtain ⟨hAC, hMC, hIC⟩ := hhC
  have hAC := Lib.hid hAC
  have hIC := Lib.hid hIC
  unfold maxLen at hMC
  obtain ⟨hAX, hMX, hIX⟩ := hhX
  have hAX := Lib.hid hAX
  have hIX := Lib.hid hIX
  unfold maxLen at hMX
  by_cases hlC : lC.length ≤ 1048576
  · skip
    have hLC := Lib.hid hlC
    by_cases hlX : lX.length ≤ 1048576
    · skip
      have hLX := Lib.hid hlX
      have hZN0 := Lib.hid ((Tw.twist_few vG lC lX vK) : (Tw.twist vG lC lX vK).length ≤ 1000000)
      have c_spec := fun (aaC : Option Addr) (ccC : Nat) (aaX : Option Addr) (ccX : Nat) (W : World) (hrC : RowAt W aaC (intCells lC)) (hrX : RowAt W aaX (intCells lX)) => spec_TwistClass vG aaC ccC lC aaX ccX lX vK W hG0 hG1 hrC hLC.out hrX hLX.out hK0 hK1
      have c_impl := fun (aaC : Option Addr) (ccC : Nat) (aaX : Option Addr) (ccX : Nat) (W : World) (hsW : Errs W) (hrC : RowAt W aaC (intCells lC)) (hrX : RowAt W aaX (intCells lX)) => impl_TwistClass vG aaC ccC lC aaX ccX lX vK W hsW hG0 hG1 hrC hLC.out hrX hLX.out hK0 hK1
      generalize hV0 : Tw.twist vG lC lX vK = R0 at *
      clear hV0
      generalize hV1 : (decide (Tw.TwOk vG lC lX vK)) = S1 at *
      clear hV1
      have Hs := Lib.hid c_spec; have Hi := Lib.hid c_impl; clear c_spec c_impl
      go_enter Tryd.func6, Tryd.ntmps6
      have h2 := Lib.hid (show w.heap.size ≤ w.heap.size from Nat.le_refl _)
      go_wp2_with fail
      refine (toIntS aC cC lC w (hAC.out.below hZB0) hLC.out).mono ?_
      rintro e w1 ⟨rfl, h3, h4⟩
      have h5 := Lib.hid (RowIn.of_blk (lo := w.heap.size) (hi := w1.heap.size) h3 (Nat.le_refl _) h3.lt); clear h3
      have h6 := Lib.hid (h4.size)
      have hZB7 : Below w.heap.size w w1 := hZB0.trans (h4.mono hZB0.size)
      clear h4
      go_wp2_with fail
      refine (toIntS aX cX lX w1 (hAX.out.below hZB7) hLX.out).mono ?_
      rintro e w2 ⟨rfl, h9, h10⟩
      have h11 := Lib.hid (RowIn.of_blk (lo := w1.heap.size) (hi := w2.heap.size) h9 (Nat.le_refl _) h9.lt); clear h9
      have h12 := Lib.hid (h10.size)
      have hZB13 : Below w.heap.size w w2 := hZB7.trans (h10.mono hZB7.size)
      have h14 := Lib.hid (h5.out.below h10); clear h5
      clear h10
      go_wp2_with fail
      refine (Hs.out (some ⟨w.heap.size, 0, none⟩) lC.length (some ⟨w1.heap.size, 0, none⟩) lX.length w2 h14.out.row h11.out.row).mono ?_
      rintro e w3 ⟨ra16, rc17, rfl, _, _, hf18, h15⟩
      have h19 := Lib.hid (hf18.row); clear hf18
      have h20 := Lib.hid (h15.size)
      have hZB21 : Below w.heap.size w w3 := hZB13.trans (h15.mono hZB13.size)
      have h22 := Lib.hid (h14.out.below h15); clear h14
      have h23 := Lib.hid (h11.out.below h15); clear h11
      clear h15
      have h24 := Lib.hid (Below.refl w3.heap.size w3)
      clear h22
      clear h23
      go_wp2_with fail
      refine (toIntS aC cC lC w3 (hAC.out.below hZB21) hLC.out).mono ?_
      rintro e w4 ⟨rfl, h25, h26⟩
      have h27 := Lib.hid (RowIn.of_blk (lo := w3.heap.size) (hi := w4.heap.size) h25 (Nat.le_refl _) h25.lt); clear h25
      have h28 := Lib.hid (h26.size)
      have hZB29 : Below w.heap.size w w4 := hZB21.trans (h26.mono hZB21.size)
      have h30 := Lib.hid (h24.out.trans (h26.mono h24.out.size)); clear h24
      clear h26
      go_wp2_with fail
      refine (toIntS aX cX lX w4 (hAX.out.below hZB29) hLX.out).mono ?_
      rintro e w5 ⟨rfl, h31, h32⟩
      have h33 := Lib.hid (RowIn.of_blk (lo := w4.heap.size) (hi := w5.heap.size) h31 (Nat.le_refl _) h31.lt); clear h31
      have h34 := Lib.hid (h32.size)
      have hZB35 : Below w.heap.size w w5 := hZB29.trans (h32.mono hZB29.size)
      have h36 := Lib.hid (h30.out.trans (h32.mono h30.out.size)); clear h30
      have h37 := Lib.hid (h27.out.below h32); clear h27
      clear h32
      go_wp2_with fail
      refine (Hi.out (some ⟨w3.heap.size, 0, none⟩) lC.length (some ⟨w4.heap.size, 0, none⟩) lX.length w5 (Errs.keeps hsh.out hZB35) h37.out.row h33.out.row).mono ?_
      rintro e w6 ⟨ra39, rc40, rfl, _, _, hf41, h38⟩
      have h42 := Lib.hid (RowIn.of_fresh hf41); clear hf41
      have h43 := Lib.hid (h38.size)
      have hZB44 : Below w.heap.size w w6 := hZB35.trans (h38.mono hZB35.size)
      have h45 := Lib.hid (h36.out.trans (h38.mono h36.out.size)); clear h36
      have h46 := Lib.hid (h37.out.below h38); clear h37
      have h47 := Lib.hid (h33.out.below h38); clear h33
      clear h38
      go_wp2_with fail
      refine (eqIntS ra39 ra16 rc40 rc17 R0 w6 h42.out.row (h19.out.below h45.out) (Nat.le_trans hZN0.out (by decide))).mono ?_
      rintro e w7 ⟨rfl, h48⟩
      have h49 := Lib.hid (h48.size)
      have hZB50 : Below w.heap.size w w7 := hZB44.trans (h48.mono hZB44.size)
      have h51 := Lib.hid (h45.out.trans (h48.mono h45.out.size)); clear h45
      have h52 := Lib.hid (h46.out.below h48); clear h46
      have h53 := Lib.hid (h47.out.below h48); clear h47
      have h54 := Lib.hid (h42.out.below h48); clear h42
      clear h48
      go_wp2_with fail
      refine (toIntS aC cC lC w7 (hAC.out.below hZB50) hLC.out).mono ?_
      rintro e w8 ⟨rfl, h56, h57⟩
      have h58 := Lib.hid (RowIn.of_blk (lo := w7.heap.size) (hi := w8.heap.size) h56 (Nat.le_refl _) h56.lt); clear h56
      have h59 := Lib.hid (h57.size)
      have hZB60 : Below w.heap.size w w8 := hZB50.trans (h57.mono hZB50.size)
      have h61 := Lib.hid (h51.out.trans (h57.mono h51.out.size)); clear h51
      have h62 := Lib.hid (h52.out.below h57); clear h52
      have h63 := Lib.hid (h53.out.below h57); clear h53
      have h64 := Lib.hid (h54.out.below h57); clear h54
      clear h57
      go_wp2_with fail
      refine (eqIntS (some ⟨w3.heap.size, 0, none⟩) (some ⟨w7.heap.size, 0, none⟩) lC.length lC.length lC w8 h62.out.row h58.out.row (Nat.le_trans hLC.out (by decide))).mono ?_
      rintro e w9 ⟨rfl, h65⟩
      have h66 := Lib.hid (h65.size)
      have hZB67 : Below w.heap.size w w9 := hZB60.trans (h65.mono hZB60.size)
      have h68 := Lib.hid (h61.out.trans (h65.mono h61.out.size)); clear h61
      have h69 := Lib.hid (h62.out.below h65); clear h62
      have h70 := Lib.hid (h63.out.below h65); clear h63
      have h71 := Lib.hid (h58.out.below h65); clear h58
      have h72 := Lib.hid (h64.out.below h65); clear h64
      clear h65
      clear h71
      go_wp2_with fail
      refine (toIntS aX cX lX w9 (hAX.out.below hZB67) hLX.out).mono ?_
      rintro e w10 ⟨rfl, h74, h75⟩
      have h76 := Lib.hid (RowIn.of_blk (lo := w9.heap.size) (hi := w10.heap.size) h74 (Nat.le_refl _) h74.lt); clear h74
      have h77 := Lib.hid (h75.size)
      have hZB78 : Below w.heap.size w w10 := hZB67.trans (h75.mono hZB67.size)
      have h79 := Lib.hid (h68.out.trans (h75.mono h68.out.size)); clear h68
      have h80 := Lib.hid (h69.out.below h75); clear h69
      have h81 := Lib.hid (h70.out.below h75); clear h70
      have h82 := Lib.hid (h72.out.below h75); clear h72
      clear h75
      go_wp2_with fail
      refine (eqIntS (some ⟨w4.heap.size, 0, none⟩) (some ⟨w9.heap.size, 0, none⟩) lX.length lX.length lX w10 h81.out.row h76.out.row (Nat.le_trans hLX.out (by decide))).mono ?_
      rintro e w11 ⟨rfl, h83⟩
      have h84 := Lib.hid (h83.size)
      have hZB85 : Below w.heap.size w w11 := hZB78.trans (h83.mono hZB78.size)
      have h86 := Lib.hid (h79.out.trans (h83.mono h79.out.size)); clear h79
      have h87 := Lib.hid (h80.out.below h83); clear h80
      have h88 := Lib.hid (h81.out.below h83); clear h81
      have h89 := Lib.hid (h76.out.below h83); clear h76
      have h90 := Lib.hid (h82.out.below h83); clear h82
      clear h83
      clear h89
      go_wp2_with fail
      refine (markIntS_only (some ⟨w3.heap.size, 0, none⟩) lC.length 1 w3.heap.size w4.heap.size lC w11 h87.out (by have := h2.out; have := h6.out; have := h12.out; have := h20.out; have := h28.out; have := h34.out; have := h43.out; have := h49.out; have := h59.out; have := h66.out; have := h77.out; have := h84.out; have := hLC.out; have := hLX.out; have := hZN0.out; omega) (by have := h2.out; have := h6.out; have := h12.out; have := h20.out; have := h28.out; have := h34.out; have := h43.out; have := h49.out; have := h59.out; have := h66.out; have := h77.out; have := h84.out; have := hLC.out; have := hLX.out; have := hZN0.out; omega)).mono ?_
      rintro e w12 ⟨rfl, h92, h91⟩
      have hZB93 : Below w.heap.size w w12 := hZB85.trans (h91.below (by have := h2.out; have := h6.out; have := h12.out; have := h20.out; have := h28.out; have := h34.out; have := h43.out; have := h49.out; have := h59.out; have := h66.out; have := h77.out; have := h84.out; have := hLC.out; have := hLX.out; have := hZN0.out; omega) hZB85.size)
      have h94 := Lib.hid (h86.out.trans (h91.below (by have := h2.out; have := h6.out; have := h12.out; have := h20.out; have := h28.out; have := h34.out; have := h43.out; have := h49.out; have := h59.out; have := h66.out; have := h77.out; have := h84.out; have := hLC.out; have := hLX.out; have := hZN0.out; omega) h86.out.size)); clear h86
      have h95 := Lib.hid (h88.out.only h91 (by have := h2.out; have := h6.out; have := h12.out; have := h20.out; have := h28.out; have := h34.out; have := h43.out; have := h49.out; have := h59.out; have := h66.out; have := h77.out; have := h84.out; have := hLC.out; have := hLX.out; have := hZN0.out; omega)); clear h88
      have h96 := Lib.hid (h90.out.only h91 (by have := h2.out; have := h6.out; have := h12.out; have := h20.out; have := h28.out; have := h34.out; have := h43.out; have := h49.out; have := h59.out; have := h66.out; have := h77.out; have := h84.out; have := hLC.out; have := hLX.out; have := hZN0.out; omega)); clear h90
      have h97 := Lib.hid (h91.size)
      clear h91 h87
      clear h92
      go_wp2_with fail
      refine (markIntS_only (some ⟨w4.heap.size, 0, none⟩) lX.length (1 + lC.length) w4.heap.size w5.heap.size lX w12 h95.out (by have := h2.out; have := h6.out; have := h12.out; have := h20.out; have := h28.out; have := h34.out; have := h43.out; have := h49.out; have := h59.out; have := h66.out; have := h77.out; have := h84.out; have := h97.out; have := hLC.out; have := hLX.out; have := hZN0.out; omega) (by have := h2.out; have := h6.out; have := h12.out; have := h20.out; have := h28.out; have := h34.out; have := h43.out; have := h49.out; have := h59.out; have := h66.out; have := h77.out; have := h84.out; have := h97.out; have := hLC.out; have := hLX.out; have := hZN0.out; omega)).mono ?_
      rintro e w13 ⟨rfl, h99, h98⟩
      have hZB100 : Below w.heap.size w w13 := hZB93.trans (h98.below (by have := h2.out; have := h6.out; have := h12.out; have := h20.out; have := h28.out; have := h34.out; have := h43.out; have := h49.out; have := h59.out; have := h66.out; have := h77.out; have := h84.out; have := h97.out; have := hLC.out; have := hLX.out; have := hZN0.out; omega) hZB93.size)
      have h101 := Lib.hid (h94.out.trans (h98.below (by have := h2.out; have := h6.out; have := h12.out; have := h20.out; have := h28.out; have := h34.out; have := h43.out; have := h49.out; have := h59.out; have := h66.out; have := h77.out; have := h84.out; have := h97.out; have := hLC.out; have := hLX.out; have := hZN0.out; omega) h94.out.size)); clear h94
      have h102 := Lib.hid (h96.out.only h98 (by have := h2.out; have := h6.out; have := h12.out; have := h20.out; have := h28.out; have := h34.out; have := h43.out; have := h49.out; have := h59.out; have := h66.out; have := h77.out; have := h84.out; have := h97.out; have := hLC.out; have := hLX.out; have := hZN0.out; omega)); clear h96
      have h103 := Lib.hid (h98.size)
      clear h98 h95
      clear h99
      go_wp2_with fail
      refine (eqIntS ra39 ra16 rc40 rc17 R0 w13 h102.out.row (h19.out.below h101.out) (Nat.le_trans hZN0.out (by decide))).mono ?_
      rintro e w14 ⟨rfl, h104⟩
      have h105 := Lib.hid (h104.size)
      have hZB106 : Below w.heap.size w w14 := hZB100.trans (h104.mono hZB100.size)
      have h107 := Lib.hid (h101.out.trans (h104.mono h101.out.size)); clear h101
      have h108 := Lib.hid (h102.out.below h104); clear h102
      clear h104
      go_wp2_with fail
      refine (markIntS_only ra39 rc40 1 w5.heap.size w6.heap.size R0 w14 h108.out (by have := h2.out; have := h6.out; have := h12.out; have := h20.out; have := h28.out; have := h34.out; have := h43.out; have := h49.out; have := h59.out; have := h66.out; have := h77.out; have := h84.out; have := h97.out; have := h103.out; have := h105.out; have := hLC.out; have := hLX.out; have := hZN0.out; omega) (by have := h2.out; have := h6.out; have := h12.out; have := h20.out; have := h28.out; have := h34.out; have := h43.out; have := h49.out; have := h59.out; have := h66.out; have := h77.out; have := h84.out; have := h97.out; have := h103.out; have := h105.out; have := hLC.out; have := hLX.out; have := hZN0.out; omega)).mono ?_
      rintro e w15 ⟨rfl, h110, h109⟩
      have hZB111 : Below w.heap.size w w15 := hZB106.trans (h109.below (by have := h2.out; have := h6.out; have := h12.out; have := h20.out; have := h28.out; have := h34.out; have := h43.out; have := h49.out; have := h59.out; have := h66.out; have := h77.out; have := h84.out; have := h97.out; have := h103.out; have := h105.out; have := hLC.out; have := hLX.out; have := hZN0.out; omega) hZB106.size)
      have h112 := Lib.hid (h107.out.trans (h109.below (by have := h2.out; have := h6.out; have := h12.out; have := h20.out; have := h28.out; have := h34.out; have := h43.out; have := h49.out; have := h59.out; have := h66.out; have := h77.out; have := h84.out; have := h97.out; have := h103.out; have := h105.out; have := hLC.out; have := hLX.out; have := hZN0.out; omega) h107.out.size)); clear h107
      have h113 := Lib.hid (h109.size)
      clear h109 h108
      have h114 := Lib.hid (h110); clear h110
      go_wp2_with fail
      refine (heldIntS ra39 R0.length rc40 1 w15 h114.out.row (by have := h2.out; have := h6.out; have := h12.out; have := h20.out; have := h28.out; have := h34.out; have := h43.out; have := h49.out; have := h59.out; have := h66.out; have := h77.out; have := h84.out; have := h97.out; have := h103.out; have := h105.out; have := h113.out; have := hLC.out; have := hLX.out; have := hZN0.out; omega) (by have := h2.out; have := h6.out; have := h12.out; have := h20.out; have := h28.out; have := h34.out; have := h43.out; have := h49.out; have := h59.out; have := h66.out; have := h77.out; have := h84.out; have := h97.out; have := h103.out; have := h105.out; have := h113.out; have := hLC.out; have := hLX.out; have := hZN0.out; omega)).mono ?_
      rintro e w16 ⟨rfl, h115⟩
      have h116 := Lib.hid (h115.size)
      have hZB117 : Below w.heap.size w w16 := hZB111.trans (h115.mono hZB111.size)
      have h118 := Lib.hid (h112.out.trans (h115.mono h112.out.size)); clear h112
      have h119 := Lib.hid (h114.out.below h115); clear h114
      clear h115
      go_wp2_with fail
      refine (toIntS aC cC lC w16 (hAC.out.below hZB117) hLC.out).mono ?_
      rintro e w17 ⟨rfl, h121, h122⟩
      have h123 := Lib.hid (RowIn.of_blk (lo := w16.heap.size) (hi := w17.heap.size) h121 (Nat.le_refl _) h121.lt); clear h121
      have h124 := Lib.hid (h122.size)
      have hZB125 : Below w.heap.size w w17 := hZB117.trans (h122.mono hZB117.size)
      have h126 := Lib.hid (h118.out.trans (h122.mono h118.out.size)); clear h118
      have h127 := Lib.hid (h119.out.below h122); clear h119
      clear h122
      go_wp2_with fail
      refine (toIntS aX cX lX w17 (hAX.out.below hZB125) hLX.out).mono ?_
      rintro e w18 ⟨rfl, h129, h130⟩
      have h131 := Lib.hid (RowIn.of_blk (lo := w17.heap.size) (hi := w18.heap.size) h129 (Nat.le_refl _) h129.lt); clear h129
      have h132 := Lib.hid (h130.size)
      have hZB133 : Below w.heap.size w w18 := hZB125.trans (h130.mono hZB125.size)
      have h134 := Lib.hid (h126.out.trans (h130.mono h126.out.size)); clear h126
      have h135 := Lib.hid (h123.out.below h130); clear h123
      have h136 := Lib.hid (h127.out.below h130); clear h127
      clear h130
      go_wp2_with fail
      refine (Hi.out (some ⟨w16.heap.size, 0, none⟩) lC.length (some ⟨w17.heap.size, 0, none⟩) lX.length w18 (Errs.keeps hsh.out hZB133) h135.out.row h131.out.row).mono ?_
      rintro e w19 ⟨ra138, rc139, rfl, _, _, hf140, h137⟩
      have h141 := Lib.hid (RowIn.of_fresh hf140); clear hf140
      have h142 := Lib.hid (h137.size)
      have hZB143 : Below w.heap.size w w19 := hZB133.trans (h137.mono hZB133.size)
      have h144 := Lib.hid (h134.out.trans (h137.mono h134.out.size)); clear h134
      have h145 := Lib.hid (h135.out.below h137); clear h135
      have h146 := Lib.hid (h131.out.below h137); clear h131
      have h147 := Lib.hid (h136.out.below h137); clear h136
      clear h137
      clear h145
      clear h146
      go_wp2_with fail
      refine (eqIntS ra138 ra16 rc139 rc17 R0 w19 h141.out.row (h19.out.below h144.out) (Nat.le_trans hZN0.out (by decide))).mono ?_
      rintro e w20 ⟨rfl, h148⟩
      have h149 := Lib.hid (h148.size)
      have hZB150 : Below w.heap.size w w20 := hZB143.trans (h148.mono hZB143.size)
      have h151 := Lib.hid (h144.out.trans (h148.mono h144.out.size)); clear h144
      have h152 := Lib.hid (h147.out.below h148); clear h147
      have h153 := Lib.hid (h141.out.below h148); clear h141
      clear h148
      go_wp2_with fail
      refine (heldIntS ra39 R0.length rc40 1 w20 h152.out.row (by have := h2.out; have := h6.out; have := h12.out; have := h20.out; have := h28.out; have := h34.out; have := h43.out; have := h49.out; have := h59.out; have := h66.out; have := h77.out; have := h84.out; have := h97.out; have := h103.out; have := h105.out; have := h113.out; have := h116.out; have := h124.out; have := h132.out; have := h142.out; have := h149.out; have := hLC.out; have := hLX.out; have := hZN0.out; omega) (by have := h2.out; have := h6.out; have := h12.out; have := h20.out; have := h28.out; have := h34.out; have := h43.out; have := h49.out; have := h59.out; have := h66.out; have := h77.out; have := h84.out; have := h97.out; have := h103.out; have := h105.out; have := h113.out; have := h116.out; have := h124.out; have := h132.out; have := h142.out; have := h149.out; have := hLC.out; have := hLX.out; have := hZN0.out; omega)).mono ?_
      rintro e w21 ⟨rfl, h154⟩
      have h155 := Lib.hid (h154.size)
      have hZB156 : Below w.heap.size w w21 := hZB150.trans (h154.mono hZB150.size)
      have h157 := Lib.hid (h151.out.trans (h154.mono h151.out.size)); clear h151
      have h158 := Lib.hid (h152.out.below h154); clear h152
      have h159 := Lib.hid (h153.out.below h154); clear h153
      clear h154
      go_wp2
      go_ret
      exact ⟨rfl, hZB156⟩
    · have hbig : 1048576 < lX.length := by omega
      go_enter Tryd.func6, Tryd.ntmps6
      go_wp2
      go_ret
      exact ⟨rfl, Below.refl _ _⟩
  · have hbig : 1048576 < lC.length := by omega
    go_enter Tryd.func6, Tryd.ntmps6
    go_wp2
    go_ret
    exact ⟨rfl, Below.refl _ _⟩

set_option maxRecDepth 100000 in
theorem contract (H : Type) (enc : TypeId × Value → H) (W : World) (base : Nat) (args : Array Value) (ds gs : List (DataW H)) (before : List MemPlace)
    (hval : ∀ (j : Nat) t v, Tryd.f6.params[j]? = some t → args[j]? = some v → Value.okWide Tryd.prog W .any base t v)
    (hW : DataW.Whole enc Tryd.prog Tryd.f6.params.toList Rows.fnExactTwistClassSpec.vars false W args.toList ds gs before) (hL : laidMetH Tryd.prog Rows.fnExactTwistClassRow.laid W) :
    Calls Tryd.prog 6 args W fun e W' => ∃ v, e = .returned v ∧ Rows.fnExactTwistClassSpec.post enc Tryd.prog Tryd.f6 false true false false W args v W' := by
  have hW' := hW
  obtain ⟨p, q, hA0, hV, rfl, hfz, hnd⟩ := hW
  have hA : DataW.TrodAll enc Tryd.prog W 0 (fun _ => true) true Tryd.f6.params.toList args.toList ds p := hA0
  rw [Tryd.params6] at hA hval
  obtain ⟨v0, vs0, d0, ds0, p0, q0, hargs, rfl, rfl, h0, r0⟩ := trodAll_cons hA
  obtain ⟨v1, vs1, d1, ds1, p1, q1, rfl, rfl, rfl, h1, r1⟩ := trodAll_cons r0
  obtain ⟨v2, vs2, d2, ds2, p2, q2, rfl, rfl, rfl, h2, r2⟩ := trodAll_cons r1
  obtain ⟨v3, vs3, d3, ds3, p3, q3, rfl, rfl, rfl, h3, r3⟩ := trodAll_cons r2
  obtain ⟨rfl, rfl, rfl⟩ := trodAll_nil r3
  obtain rfl : args = #[v0, v1, v2, v3] := by cases args; simp_all
  have hV : DataW.TrodVars enc Tryd.prog W (fun _ => true) ["loop.example/g03105/impl.errTooGreat"] gs q := hV
  obtain ⟨sa, hsv⟩ := Er.var_of hL (by rfl)
  have hvr : ∀ {X : World}, X.var? Tryd.prog "loop.example/g03105/impl.errTooGreat" = some #[.iface 100 (.pointer (some sa))] → ∀ sp : Nat → Bool, DataW.TrodVars enc Tryd.prog X sp ["loop.example/g03105/impl.errTooGreat"] [tok enc (.iface 100 (.pointer (some sa)))] [.cell 0 0] :=
    fun x0 sp => vars_read1 enc Er.gGreat Er.tGreat Tryd.underlying78 x0 trivial sp
  obtain ⟨rfl, rfl⟩ := hV.unique (hvr hsv _)
  have k0 := h0
  have k1 := h1
  have k2 := h2
  have k3 := h3
  obtain ⟨G, rfl, rfl, rfl, wG⟩ := open_int Tryd.underlying3 (hval 0 3 v0 rfl rfl) h0
  have bG := bounds_i64 wG
  obtain ⟨aC, cC, lC, rfl, wC⟩ := Read.ints_of (hval 1 24 v1 rfl rfl) h1
  obtain ⟨aX, cX, lX, rfl, wX⟩ := Read.ints_of (hval 2 24 v2 rfl rfl) h2
  obtain ⟨K, rfl, rfl, rfl, wK⟩ := open_int Tryd.underlying3 (hval 3 3 v3 rfl rfl) h3
  have bK := bounds_i64 wK
  clear hA0
  simp only [List.append_nil] at hW'
  refine (law G bG.1 bG.2 aC cC lC aX cX lX K bK.1 bK.2 W wC wX (errs_of hL (by rfl))).mono fun e W' ⟨he, hg⟩ => ?_
  subst he
  exact ⟨_, rfl, post_of_below (pv := [.cell 0 0]) hW' (fun _ _ _ => trodAll_cons_mk (shut_bool Tryd.underlying4 _) trodAll_mk0)
    (fun sp hs => trodAll_cons_mk (trod_keeps (t := 3) (by kernel_rfl) (by kernel_rfl) (by kernel_rfl) k0 hg (fun x hx => hW'.lt x (by simp_all)) (fun x hx => hs x (by simp_all))) (trodAll_cons_mk (trod_keeps (t := 24) (by kernel_rfl) (by kernel_rfl) (by kernel_rfl) k1 hg (fun x hx => hW'.lt x (by simp_all)) (fun x hx => hs x (by simp_all))) (trodAll_cons_mk (trod_keeps (t := 24) (by kernel_rfl) (by kernel_rfl) (by kernel_rfl) k2 hg (fun x hx => hW'.lt x (by simp_all)) (fun x hx => hs x (by simp_all))) (trodAll_cons_mk (trod_keeps (t := 3) (by kernel_rfl) (by kernel_rfl) (by kernel_rfl) k3 hg (fun x hx => hW'.lt x (by simp_all)) (fun x hx => hs x (by simp_all))) (trodAll_mk0)))))
    (fun sp _ => hvr (Er.var_keeps hg Er.gGreat hsv) sp) (by simp) hg (ok_one (by kernel_rfl) rfl (okWide_bool_mk Tryd.underlying4 _))⟩

theorem laid_met (os : Os) : laidMetH Tryd.prog Rows.fnExactTwistClassRow.laid ((World.doorLaid Tryd.prog 28 os).forCall (fun _ _ => 0) ⟨#[], #[.int .i64 0, .slice none 0 0, .slice none 0 0, .int .i64 0], []⟩).memory :=
  Low.met os #[.int .i64 0, .slice none 0 0, .slice none 0 0, .int .i64 0] Rows.fnExactTwistClassRow.laid (Rows.fnExactTwistClassRow.laid.map (·.1)) (by rfl)
set_option maxRecDepth 100000 in
theorem lifted (os : Os) (started : os.Started) (H : Type) (enc : TypeId × Value → H) (F : Stop.Interp) :
    ReturnsInHanded {} Tryd.checked os 6 .any ((OpenSpec.ofChange Rows.fnExactTwistClassSpec).preRow enc Tryd.prog Tryd.f6 Rows.fnExactTwistClassRow.domain false Rows.fnExactTwistClassRow.laid) (((OpenSpec.ofChange Rows.fnExactTwistClassSpec).at F).post enc Tryd.prog Tryd.f6 false true false false) := by
  refine returnsInHanded_of_row (C := Tryd.checked) (s := OpenSpec.ofChange Rows.fnExactTwistClassSpec) Low.own started (by kernel_rfl) Tryd.func6
    (witness_row_atRef (enc := enc) (C := Tryd.checked) false (World.doorLaid Tryd.prog 28 os) #[.int .i64 0, .slice none 0 0, .slice none 0 0, .int .i64 0] (by unfold World.doorLaid; rfl) (Low.shapeB os #[.int .i64 0, .slice none 0 0, .slice none 0 0, .int .i64 0]) (Low.shapeR os #[.int .i64 0, .slice none 0 0, .slice none 0 0, .int .i64 0]) (by kernel_rfl)
      (OpenSpec.preRow_of_B rfl 8 (by kernel_rfl) (by kernel_rfl) (laid_met os))) ?_
  intro W base args ds gs before hval hW _ _ _ hL hShaped _
  exact contract H enc W base args ds gs before hval hW hL

theorem said : Rows.FnExactTwistClassSaid :=
  OpenClaim.holds_of_cond 6 Tryd.f6 rfl rfl rfl rfl rfl rfl rfl ⟨rfl, rfl, rfl, rfl, rfl⟩ rfl rfl rfl rfl rfl (by kernel_rfl) Tryd.func6 (by kernel_rfl)
    (of_decide_eq_true (by kernel_rfl)) (by unfold Func.isWrapper; first | (rw [if_pos (by decide +kernel)]; kernel_rfl) | (rw [if_neg (by decide +kernel)]; exact ⟨rfl, rfl⟩))
    (fun os started H enc _ F => by rw [OpenClaim.pre_eq_preRow]; exact lifted os started H enc F)

theorem looks (f : FuncId) (fn : Func) (hf : Tryd.pinned.checked.prog.funcNamed "loop.example/g03105/laws.FnExactTwistClass" = some f) (hfn : Tryd.pinned.checked.prog.funcs[f]? = some fn) :
    true = Tryd.pinned.checked.prog.looks [] ∧ ∀ (j : Nat) t, fn.params[j]? = some t → Tryd.pinned.checked.prog.wantsStandIn t = false := by
  obtain rfl : f = 6 := Option.some.inj ((show Tryd.prog.funcNamed "loop.example/g03105/laws.FnExactTwistClass" = some 6 by kernel_rfl).symm.trans hf) |>.symm
  obtain rfl : fn = Tryd.f6 := (Option.some.inj (Tryd.func6.symm.trans hfn)).symm
  refine ⟨by kernel_rfl, fun j t ht => ?_⟩
  rw [Tryd.params6] at ht
  have hm : t ∈ [3, 24, 24, 3] := by simpa using Array.mem_of_getElem? ht
  have hall : ([3, 24, 24, 3].all fun u => !Tryd.prog.wantsStandIn u) = true := by kernel_rfl
  exact (show Tryd.prog.wantsStandIn t = false by simpa using List.all_eq_true.1 hall t hm)

theorem card : Rows.FnExactTwistClassCardSaid :=
  Claim7.holds_tied_plain_at .later [] _ _ _ _ said (fun _ h => by cases h) (by kernel_rfl) (fun _ h => by cases h) fnExactTwistClass_row_tie rfl ⟨rfl, rfl⟩ (by kernel_rfl) rfl looks (by kernel_rfl)
end Go.Proofs.YtamgimdjnmcpaaaDoor.fnExactTwistClass
