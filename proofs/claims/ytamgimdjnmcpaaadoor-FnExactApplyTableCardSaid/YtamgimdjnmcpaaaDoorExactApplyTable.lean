/-
  At every argument the program's ApplyTable returns what the model returns, writes into no argument, and its answer owns its memory.
-/
import Derived.Test.YtamgimdjnmcpaaaDoorCards
import Derived.Test.YtamgimdjnmcpaaaDoorTie
import Derived.Test.YtamgimdjnmcpaaaDoorBase
import Derived.Test.YtamgimdjnmcpaaaDoorLow
import Derived.Test.YtamgimdjnmcpaaaDoorDoorLow
import Derived.Test.YtamgimdjnmcpaaaDoorSlice
import Derived.Test.YtamgimdjnmcpaaaDoorIntRow
import Derived.Test.YtamgimdjnmcpaaaDoorInts
import Derived.Test.YtamgimdjnmcpaaaDoorOwn
import Derived.Test.YtamgimdjnmcpaaaDoorGrid
import Derived.Test.YtamgimdjnmcpaaaDoorGridWalk
import Derived.Test.YtamgimdjnmcpaaaDoorGridWalk2
import Derived.Test.YtamgimdjnmcpaaaDoorGridMark
import Derived.Test.YtamgimdjnmcpaaaDoorReadInts
import Derived.Test.YtamgimdjnmcpaaaDoorTw
import Derived.Test.YtamgimdjnmcpaaaDoorTwErr
import Derived.Test.YtamgimdjnmcpaaaDoorTwG
import Derived.Test.YtamgimdjnmcpaaaDoorAdTw
import Derived.Deep.DeepWitnessRowRef
import Derived.OpenShut
import Derived.Deep.DeepHandedRow
import Derived.LaidMore
import Derived.Stop.LaidErr
namespace Go.Proofs.YtamgimdjnmcpaaaDoor.fnExactApplyTable
open Go.ChangeShapes Go.WideShapes Go.ChangeAt Go.RowKit Go.Sort
open Go.ChangeMaps (open_string)

set_option maxRecDepth 10000 in
set_option maxHeartbeats 2000000 in
theorem law (aT : Option Addr) (cT : Nat) (LT : List (List Int)) (aX : Option Addr) (cX : Nat) (lX : List Int) (w : World) (hhT : GridAt w aT LT ∧ LT.length ≤ maxLen ∧ (∀ r ∈ LT, r.length ≤ maxLen) ∧ ∀ r ∈ LT, I64s r) (hhX : RowAt w aX (intCells lX) ∧ lX.length ≤ maxLen ∧ I64s lX) (hsh : Errs w) :
    Calls Tryd.prog 8 #[.slice aT LT.length cT, .slice aX lX.length cX] w fun e w' => e = .returned (.bool true) ∧ Below w.heap.size w w' := by
  have hZB0 := Below.refl w.heap.size w
  have hsh := Lib.hid hsh
  obtain ⟨hAT, hmT, hrT, hIT⟩ := hhT
  have hAT := Lib.hid hAT
  have hIT := Lib.hid hIT
  have hMT := Lib.hid (show LT.length ≤ 9223372036854775807 ∧ ∀ r ∈ LT, r.length ≤ 9223372036854775807 from ⟨hmT, hrT⟩); clear hrT
  unfold maxLen at hmT
  obtain ⟨hAX, hMX, hIX⟩ := hhX
  have hAX := Lib.hid hAX
  have hIX := Lib.hid hIX
  unfold maxLen at hMX
  by_cases hlX : lX.length ≤ 1048576
  · skip
    have hLX := Lib.hid hlX
    by_cases hfT : tot LT ≤ 1048576
    · skip
      have hLT := Lib.hid (show tot LT ≤ 1048576 by omega)
      have hFT := Lib.hid hfT; clear hfT
      have hST := Lib.hid (show sumLen LT ≤ 1048576 by have := hLT.out; unfold tot at this; omega)
      have hTT : LT.length ≤ 1048576 := by have := hLT.out; unfold tot at this; omega
      have hZN0 := Lib.hid ((Tw.apply_few LT lX) : (Tw.apply LT lX).length ≤ 1000000)
      have c_spec := fun (aaT : Option Addr) (ccT : Nat) (aaX : Option Addr) (ccX : Nat) (W : World) (hrT : GridAt W aaT LT) (hrX : RowAt W aaX (intCells lX)) => spec_ApplyTable aaT ccT LT aaX ccX lX W hrT hLT.out hrX hLX.out
      have c_impl := fun (aaT : Option Addr) (ccT : Nat) (aaX : Option Addr) (ccX : Nat) (W : World) (hsW : Errs W) (hrT : GridAt W aaT LT) (hrX : RowAt W aaX (intCells lX)) => impl_ApplyTable aaT ccT LT aaX ccX lX W hsW hrT hLT.out hrX hLX.out
      generalize hV0 : Tw.apply LT lX = R0 at *
      clear hV0
      generalize hV1 : (decide (Tw.AppOk LT lX)) = S1 at *
      clear hV1
      have Hs := Lib.hid c_spec; have Hi := Lib.hid c_impl; clear c_spec c_impl
      go_enter Tryd.func8, Tryd.ntmps8
      go_wp2_with fail
      refine (szIntSS_fit aT cT 1048576 LT w (hAT.out.below hZB0) hMT.out (by omega) hFT.out).mono ?_
      rintro e w1 ⟨rfl, h1⟩
      have h2 := Lib.hid (h1.size)
      have hZB3 : Below w.heap.size w w1 := hZB0.trans (h1.mono hZB0.size)
      clear h1
      go_wp2_with fail
      refine (toIntSS aT cT LT w1 (hAT.out.below hZB3) hLT.out).mono ?_
      rintro e w2 ⟨rfl, h5, h6⟩
      have h7 := Lib.hid (h5); clear h5
      have h8 := Lib.hid (h6.size)
      have hZB9 : Below w.heap.size w w2 := hZB3.trans (h6.mono hZB3.size)
      clear h6
      go_wp2_with fail
      refine (toIntS aX cX lX w2 (hAX.out.below hZB9) hLX.out).mono ?_
      rintro e w3 ⟨rfl, h11, h12⟩
      have h13 := Lib.hid (RowIn.of_blk (lo := w2.heap.size) (hi := w3.heap.size) h11 (Nat.le_refl _) h11.lt); clear h11
      have h14 := Lib.hid (h12.size)
      have hZB15 : Below w.heap.size w w3 := hZB9.trans (h12.mono hZB9.size)
      have h16 := Lib.hid (h7.out.below h12); clear h7
      clear h12
      go_wp2_with fail
      refine (Hs.out (some ⟨w1.heap.size, 0, none⟩) LT.length (some ⟨w2.heap.size, 0, none⟩) lX.length w3 h16.out.grid h13.out.row).mono ?_
      rintro e w4 ⟨ra18, rc19, rfl, _, _, hf20, h17⟩
      have h21 := Lib.hid (hf20.row); clear hf20
      have h22 := Lib.hid (h17.size)
      have hZB23 : Below w.heap.size w w4 := hZB15.trans (h17.mono hZB15.size)
      have h24 := Lib.hid (h16.out.below h17); clear h16
      have h25 := Lib.hid (h13.out.below h17); clear h13
      clear h17
      have h26 := Lib.hid (Below.refl w4.heap.size w4)
      clear h24
      clear h25
      go_wp2_with fail
      refine (toIntSS aT cT LT w4 (hAT.out.below hZB23) hLT.out).mono ?_
      rintro e w5 ⟨rfl, h27, h28⟩
      have h29 := Lib.hid (h27); clear h27
      have h30 := Lib.hid (h28.size)
      have hZB31 : Below w.heap.size w w5 := hZB23.trans (h28.mono hZB23.size)
      have h32 := Lib.hid (h26.out.trans (h28.mono h26.out.size)); clear h26
      clear h28
      go_wp2_with fail
      refine (toIntS aX cX lX w5 (hAX.out.below hZB31) hLX.out).mono ?_
      rintro e w6 ⟨rfl, h33, h34⟩
      have h35 := Lib.hid (RowIn.of_blk (lo := w5.heap.size) (hi := w6.heap.size) h33 (Nat.le_refl _) h33.lt); clear h33
      have h36 := Lib.hid (h34.size)
      have hZB37 : Below w.heap.size w w6 := hZB31.trans (h34.mono hZB31.size)
      have h38 := Lib.hid (h32.out.trans (h34.mono h32.out.size)); clear h32
      have h39 := Lib.hid (h29.out.below h34); clear h29
      clear h34
      go_wp2_with fail
      refine (Hi.out (some ⟨w4.heap.size, 0, none⟩) LT.length (some ⟨w5.heap.size, 0, none⟩) lX.length w6 (Errs.keeps hsh.out hZB37) h39.out.grid h35.out.row).mono ?_
      rintro e w7 ⟨ra41, rc42, rfl, _, _, hf43, h40⟩
      have h44 := Lib.hid (RowIn.of_fresh hf43); clear hf43
      have h45 := Lib.hid (h40.size)
      have hZB46 : Below w.heap.size w w7 := hZB37.trans (h40.mono hZB37.size)
      have h47 := Lib.hid (h38.out.trans (h40.mono h38.out.size)); clear h38
      have h48 := Lib.hid (h39.out.below h40); clear h39
      have h49 := Lib.hid (h35.out.below h40); clear h35
      clear h40
      go_wp2_with fail
      refine (eqIntS ra41 ra18 rc42 rc19 R0 w7 h44.out.row (h21.out.below h47.out) (Nat.le_trans hZN0.out (by decide))).mono ?_
      rintro e w8 ⟨rfl, h50⟩
      have h51 := Lib.hid (h50.size)
      have hZB52 : Below w.heap.size w w8 := hZB46.trans (h50.mono hZB46.size)
      have h53 := Lib.hid (h47.out.trans (h50.mono h47.out.size)); clear h47
      have h54 := Lib.hid (h48.out.below h50); clear h48
      have h55 := Lib.hid (h49.out.below h50); clear h49
      have h56 := Lib.hid (h44.out.below h50); clear h44
      clear h50
      go_wp2_with fail
      refine (toIntSS aT cT LT w8 (hAT.out.below hZB52) hLT.out).mono ?_
      rintro e w9 ⟨rfl, h58, h59⟩
      have h60 := Lib.hid (h58); clear h58
      have h61 := Lib.hid (h59.size)
      have hZB62 : Below w.heap.size w w9 := hZB52.trans (h59.mono hZB52.size)
      have h63 := Lib.hid (h53.out.trans (h59.mono h53.out.size)); clear h53
      have h64 := Lib.hid (h54.out.below h59); clear h54
      have h65 := Lib.hid (h55.out.below h59); clear h55
      have h66 := Lib.hid (h56.out.below h59); clear h56
      clear h59
      go_wp2_with fail
      refine (eqIntSS (some ⟨w4.heap.size, 0, none⟩) (some ⟨w8.heap.size, 0, none⟩) LT.length LT.length LT w9 h64.out.grid h60.out.grid (Nat.le_trans hLT.out (by decide))).mono ?_
      rintro e w10 ⟨rfl, h67⟩
      have h68 := Lib.hid (h67.size)
      have hZB69 : Below w.heap.size w w10 := hZB62.trans (h67.mono hZB62.size)
      have h70 := Lib.hid (h63.out.trans (h67.mono h63.out.size)); clear h63
      have h71 := Lib.hid (h64.out.below h67); clear h64
      have h72 := Lib.hid (h65.out.below h67); clear h65
      have h73 := Lib.hid (h60.out.below h67); clear h60
      have h74 := Lib.hid (h66.out.below h67); clear h66
      clear h67
      clear h73
      go_wp2_with fail
      refine (toIntS aX cX lX w10 (hAX.out.below hZB69) hLX.out).mono ?_
      rintro e w11 ⟨rfl, h76, h77⟩
      have h78 := Lib.hid (RowIn.of_blk (lo := w10.heap.size) (hi := w11.heap.size) h76 (Nat.le_refl _) h76.lt); clear h76
      have h79 := Lib.hid (h77.size)
      have hZB80 : Below w.heap.size w w11 := hZB69.trans (h77.mono hZB69.size)
      have h81 := Lib.hid (h70.out.trans (h77.mono h70.out.size)); clear h70
      have h82 := Lib.hid (h71.out.below h77); clear h71
      have h83 := Lib.hid (h72.out.below h77); clear h72
      have h84 := Lib.hid (h74.out.below h77); clear h74
      clear h77
      go_wp2_with fail
      refine (eqIntS (some ⟨w5.heap.size, 0, none⟩) (some ⟨w10.heap.size, 0, none⟩) lX.length lX.length lX w11 h83.out.row h78.out.row (Nat.le_trans hLX.out (by decide))).mono ?_
      rintro e w12 ⟨rfl, h85⟩
      have h86 := Lib.hid (h85.size)
      have hZB87 : Below w.heap.size w w12 := hZB80.trans (h85.mono hZB80.size)
      have h88 := Lib.hid (h81.out.trans (h85.mono h81.out.size)); clear h81
      have h89 := Lib.hid (h82.out.below h85); clear h82
      have h90 := Lib.hid (h83.out.below h85); clear h83
      have h91 := Lib.hid (h78.out.below h85); clear h78
      have h92 := Lib.hid (h84.out.below h85); clear h84
      clear h85
      clear h91
      go_wp2_with fail
      refine (markIntSS (some ⟨w4.heap.size, 0, none⟩) LT.length 1 w4.heap.size w5.heap.size LT w12 h89.out (by have := h2.out; have := h8.out; have := h14.out; have := h22.out; have := h30.out; have := h36.out; have := h45.out; have := h51.out; have := h61.out; have := h68.out; have := h79.out; have := h86.out; have := hLX.out; have := hST.out; have := hZN0.out; omega) (Nat.le_trans hLT.out (by decide))).mono ?_
      rintro e w13 ⟨rfl, h94, h93⟩
      have hZB95 : Below w.heap.size w w13 := hZB87.trans (h93.below (by have := h2.out; have := h8.out; have := h14.out; have := h22.out; have := h30.out; have := h36.out; have := h45.out; have := h51.out; have := h61.out; have := h68.out; have := h79.out; have := h86.out; have := hLX.out; have := hST.out; have := hZN0.out; omega) hZB87.size)
      have h96 := Lib.hid (h88.out.trans (h93.below (by have := h2.out; have := h8.out; have := h14.out; have := h22.out; have := h30.out; have := h36.out; have := h45.out; have := h51.out; have := h61.out; have := h68.out; have := h79.out; have := h86.out; have := hLX.out; have := hST.out; have := hZN0.out; omega) h88.out.size)); clear h88
      have h97 := Lib.hid (h90.out.only h93 (by have := h2.out; have := h8.out; have := h14.out; have := h22.out; have := h30.out; have := h36.out; have := h45.out; have := h51.out; have := h61.out; have := h68.out; have := h79.out; have := h86.out; have := hLX.out; have := hST.out; have := hZN0.out; omega)); clear h90
      have h98 := Lib.hid (h92.out.only h93 (by have := h2.out; have := h8.out; have := h14.out; have := h22.out; have := h30.out; have := h36.out; have := h45.out; have := h51.out; have := h61.out; have := h68.out; have := h79.out; have := h86.out; have := hLX.out; have := hST.out; have := hZN0.out; omega)); clear h92
      have h99 := Lib.hid (h93.size)
      clear h93 h89
      clear h94
      go_wp2_with fail
      refine (markIntS_only (some ⟨w5.heap.size, 0, none⟩) lX.length (1 + sumLen LT) w5.heap.size w6.heap.size lX w13 h97.out (by have := h2.out; have := h8.out; have := h14.out; have := h22.out; have := h30.out; have := h36.out; have := h45.out; have := h51.out; have := h61.out; have := h68.out; have := h79.out; have := h86.out; have := h99.out; have := hLX.out; have := hST.out; have := hZN0.out; omega) (by have := h2.out; have := h8.out; have := h14.out; have := h22.out; have := h30.out; have := h36.out; have := h45.out; have := h51.out; have := h61.out; have := h68.out; have := h79.out; have := h86.out; have := h99.out; have := hLX.out; have := hST.out; have := hZN0.out; omega)).mono ?_
      rintro e w14 ⟨rfl, h101, h100⟩
      have hZB102 : Below w.heap.size w w14 := hZB95.trans (h100.below (by have := h2.out; have := h8.out; have := h14.out; have := h22.out; have := h30.out; have := h36.out; have := h45.out; have := h51.out; have := h61.out; have := h68.out; have := h79.out; have := h86.out; have := h99.out; have := hLX.out; have := hST.out; have := hZN0.out; omega) hZB95.size)
      have h103 := Lib.hid (h96.out.trans (h100.below (by have := h2.out; have := h8.out; have := h14.out; have := h22.out; have := h30.out; have := h36.out; have := h45.out; have := h51.out; have := h61.out; have := h68.out; have := h79.out; have := h86.out; have := h99.out; have := hLX.out; have := hST.out; have := hZN0.out; omega) h96.out.size)); clear h96
      have h104 := Lib.hid (h98.out.only h100 (by have := h2.out; have := h8.out; have := h14.out; have := h22.out; have := h30.out; have := h36.out; have := h45.out; have := h51.out; have := h61.out; have := h68.out; have := h79.out; have := h86.out; have := h99.out; have := hLX.out; have := hST.out; have := hZN0.out; omega)); clear h98
      have h105 := Lib.hid (h100.size)
      clear h100 h97
      clear h101
      go_wp2_with fail
      refine (eqIntS ra41 ra18 rc42 rc19 R0 w14 h104.out.row (h21.out.below h103.out) (Nat.le_trans hZN0.out (by decide))).mono ?_
      rintro e w15 ⟨rfl, h106⟩
      have h107 := Lib.hid (h106.size)
      have hZB108 : Below w.heap.size w w15 := hZB102.trans (h106.mono hZB102.size)
      have h109 := Lib.hid (h103.out.trans (h106.mono h103.out.size)); clear h103
      have h110 := Lib.hid (h104.out.below h106); clear h104
      clear h106
      go_wp2_with fail
      refine (markIntS_only ra41 rc42 1 w6.heap.size w7.heap.size R0 w15 h110.out (by have := h2.out; have := h8.out; have := h14.out; have := h22.out; have := h30.out; have := h36.out; have := h45.out; have := h51.out; have := h61.out; have := h68.out; have := h79.out; have := h86.out; have := h99.out; have := h105.out; have := h107.out; have := hLX.out; have := hST.out; have := hZN0.out; omega) (by have := h2.out; have := h8.out; have := h14.out; have := h22.out; have := h30.out; have := h36.out; have := h45.out; have := h51.out; have := h61.out; have := h68.out; have := h79.out; have := h86.out; have := h99.out; have := h105.out; have := h107.out; have := hLX.out; have := hST.out; have := hZN0.out; omega)).mono ?_
      rintro e w16 ⟨rfl, h112, h111⟩
      have hZB113 : Below w.heap.size w w16 := hZB108.trans (h111.below (by have := h2.out; have := h8.out; have := h14.out; have := h22.out; have := h30.out; have := h36.out; have := h45.out; have := h51.out; have := h61.out; have := h68.out; have := h79.out; have := h86.out; have := h99.out; have := h105.out; have := h107.out; have := hLX.out; have := hST.out; have := hZN0.out; omega) hZB108.size)
      have h114 := Lib.hid (h109.out.trans (h111.below (by have := h2.out; have := h8.out; have := h14.out; have := h22.out; have := h30.out; have := h36.out; have := h45.out; have := h51.out; have := h61.out; have := h68.out; have := h79.out; have := h86.out; have := h99.out; have := h105.out; have := h107.out; have := hLX.out; have := hST.out; have := hZN0.out; omega) h109.out.size)); clear h109
      have h115 := Lib.hid (h111.size)
      clear h111 h110
      have h116 := Lib.hid (h112); clear h112
      go_wp2_with fail
      refine (heldIntS ra41 R0.length rc42 1 w16 h116.out.row (by have := h2.out; have := h8.out; have := h14.out; have := h22.out; have := h30.out; have := h36.out; have := h45.out; have := h51.out; have := h61.out; have := h68.out; have := h79.out; have := h86.out; have := h99.out; have := h105.out; have := h107.out; have := h115.out; have := hLX.out; have := hST.out; have := hZN0.out; omega) (by have := h2.out; have := h8.out; have := h14.out; have := h22.out; have := h30.out; have := h36.out; have := h45.out; have := h51.out; have := h61.out; have := h68.out; have := h79.out; have := h86.out; have := h99.out; have := h105.out; have := h107.out; have := h115.out; have := hLX.out; have := hST.out; have := hZN0.out; omega)).mono ?_
      rintro e w17 ⟨rfl, h117⟩
      have h118 := Lib.hid (h117.size)
      have hZB119 : Below w.heap.size w w17 := hZB113.trans (h117.mono hZB113.size)
      have h120 := Lib.hid (h114.out.trans (h117.mono h114.out.size)); clear h114
      have h121 := Lib.hid (h116.out.below h117); clear h116
      clear h117
      go_wp2_with fail
      refine (toIntSS aT cT LT w17 (hAT.out.below hZB119) hLT.out).mono ?_
      rintro e w18 ⟨rfl, h123, h124⟩
      have h125 := Lib.hid (h123); clear h123
      have h126 := Lib.hid (h124.size)
      have hZB127 : Below w.heap.size w w18 := hZB119.trans (h124.mono hZB119.size)
      have h128 := Lib.hid (h120.out.trans (h124.mono h120.out.size)); clear h120
      have h129 := Lib.hid (h121.out.below h124); clear h121
      clear h124
      go_wp2_with fail
      refine (toIntS aX cX lX w18 (hAX.out.below hZB127) hLX.out).mono ?_
      rintro e w19 ⟨rfl, h131, h132⟩
      have h133 := Lib.hid (RowIn.of_blk (lo := w18.heap.size) (hi := w19.heap.size) h131 (Nat.le_refl _) h131.lt); clear h131
      have h134 := Lib.hid (h132.size)
      have hZB135 : Below w.heap.size w w19 := hZB127.trans (h132.mono hZB127.size)
      have h136 := Lib.hid (h128.out.trans (h132.mono h128.out.size)); clear h128
      have h137 := Lib.hid (h125.out.below h132); clear h125
      have h138 := Lib.hid (h129.out.below h132); clear h129
      clear h132
      go_wp2_with fail
      refine (Hi.out (some ⟨w17.heap.size, 0, none⟩) LT.length (some ⟨w18.heap.size, 0, none⟩) lX.length w19 (Errs.keeps hsh.out hZB135) h137.out.grid h133.out.row).mono ?_
      rintro e w20 ⟨ra140, rc141, rfl, _, _, hf142, h139⟩
      have h143 := Lib.hid (RowIn.of_fresh hf142); clear hf142
      have h144 := Lib.hid (h139.size)
      have hZB145 : Below w.heap.size w w20 := hZB135.trans (h139.mono hZB135.size)
      have h146 := Lib.hid (h136.out.trans (h139.mono h136.out.size)); clear h136
      have h147 := Lib.hid (h137.out.below h139); clear h137
      have h148 := Lib.hid (h133.out.below h139); clear h133
      have h149 := Lib.hid (h138.out.below h139); clear h138
      clear h139
      clear h147
      clear h148
      go_wp2_with fail
      refine (eqIntS ra140 ra18 rc141 rc19 R0 w20 h143.out.row (h21.out.below h146.out) (Nat.le_trans hZN0.out (by decide))).mono ?_
      rintro e w21 ⟨rfl, h150⟩
      have h151 := Lib.hid (h150.size)
      have hZB152 : Below w.heap.size w w21 := hZB145.trans (h150.mono hZB145.size)
      have h153 := Lib.hid (h146.out.trans (h150.mono h146.out.size)); clear h146
      have h154 := Lib.hid (h149.out.below h150); clear h149
      have h155 := Lib.hid (h143.out.below h150); clear h143
      clear h150
      go_wp2_with fail
      refine (heldIntS ra41 R0.length rc42 1 w21 h154.out.row (by have := h2.out; have := h8.out; have := h14.out; have := h22.out; have := h30.out; have := h36.out; have := h45.out; have := h51.out; have := h61.out; have := h68.out; have := h79.out; have := h86.out; have := h99.out; have := h105.out; have := h107.out; have := h115.out; have := h118.out; have := h126.out; have := h134.out; have := h144.out; have := h151.out; have := hLX.out; have := hST.out; have := hZN0.out; omega) (by have := h2.out; have := h8.out; have := h14.out; have := h22.out; have := h30.out; have := h36.out; have := h45.out; have := h51.out; have := h61.out; have := h68.out; have := h79.out; have := h86.out; have := h99.out; have := h105.out; have := h107.out; have := h115.out; have := h118.out; have := h126.out; have := h134.out; have := h144.out; have := h151.out; have := hLX.out; have := hST.out; have := hZN0.out; omega)).mono ?_
      rintro e w22 ⟨rfl, h156⟩
      have h157 := Lib.hid (h156.size)
      have hZB158 : Below w.heap.size w w22 := hZB152.trans (h156.mono hZB152.size)
      have h159 := Lib.hid (h153.out.trans (h156.mono h153.out.size)); clear h153
      have h160 := Lib.hid (h154.out.below h156); clear h154
      have h161 := Lib.hid (h155.out.below h156); clear h155
      clear h156
      go_wp2
      go_ret
      exact ⟨rfl, hZB158⟩
    · have hLT := Lib.hid hfT
      clear hfT
      go_enter Tryd.func8, Tryd.ntmps8
      go_wp2_with fail
      refine (szIntSS_big aT cT 1048576 LT w (hAT.out.below hZB0) hMT.out (by omega) hLT.out).mono ?_
      rintro e w1 ⟨rfl, h162⟩
      have h163 := Lib.hid (h162.size)
      have hZB164 : Below w.heap.size w w1 := hZB0.trans (h162.mono hZB0.size)
      clear h162
      go_wp2
      go_ret
      exact ⟨rfl, hZB164⟩
  · have hbig : 1048576 < lX.length := by omega
    go_enter Tryd.func8, Tryd.ntmps8
    go_wp2
    go_ret
    exact ⟨rfl, Below.refl _ _⟩

set_option maxRecDepth 100000 in
theorem contract (H : Type) (enc : TypeId × Value → H) (W : World) (base : Nat) (args : Array Value) (ds gs : List (DataW H)) (before : List MemPlace)
    (hval : ∀ (j : Nat) t v, Tryd.f8.params[j]? = some t → args[j]? = some v → Value.okWide Tryd.prog W .any base t v)
    (hW : DataW.Whole enc Tryd.prog Tryd.f8.params.toList Rows.fnExactApplyTableSpec.vars false W args.toList ds gs before) (hL : laidMetH Tryd.prog Rows.fnExactApplyTableRow.laid W) :
    Calls Tryd.prog 8 args W fun e W' => ∃ v, e = .returned v ∧ Rows.fnExactApplyTableSpec.post enc Tryd.prog Tryd.f8 false true false false W args v W' := by
  have hW' := hW
  obtain ⟨p, q, hA0, hV, rfl, hfz, hnd⟩ := hW
  have hA : DataW.TrodAll enc Tryd.prog W 0 (fun _ => true) true Tryd.f8.params.toList args.toList ds p := hA0
  rw [Tryd.params8] at hA hval
  obtain ⟨v0, vs0, d0, ds0, p0, q0, hargs, rfl, rfl, h0, r0⟩ := trodAll_cons hA
  obtain ⟨v1, vs1, d1, ds1, p1, q1, rfl, rfl, rfl, h1, r1⟩ := trodAll_cons r0
  obtain ⟨rfl, rfl, rfl⟩ := trodAll_nil r1
  obtain rfl : args = #[v0, v1] := by cases args; simp_all
  have hV : DataW.TrodVars enc Tryd.prog W (fun _ => true) ["loop.example/g03105/impl.errTooGreat"] gs q := hV
  obtain ⟨sa, hsv⟩ := Er.var_of hL (by rfl)
  have hvr : ∀ {X : World}, X.var? Tryd.prog "loop.example/g03105/impl.errTooGreat" = some #[.iface 100 (.pointer (some sa))] → ∀ sp : Nat → Bool, DataW.TrodVars enc Tryd.prog X sp ["loop.example/g03105/impl.errTooGreat"] [tok enc (.iface 100 (.pointer (some sa)))] [.cell 0 0] :=
    fun x0 sp => vars_read1 enc Er.gGreat Er.tGreat Tryd.underlying78 x0 trivial sp
  obtain ⟨rfl, rfl⟩ := hV.unique (hvr hsv _)
  have k0 := h0
  have k1 := h1
  obtain ⟨aT, cT, lT, rfl, wT⟩ := Read.rows_of (hval 0 31 v0 rfl rfl) h0
  obtain ⟨aX, cX, lX, rfl, wX⟩ := Read.ints_of (hval 1 24 v1 rfl rfl) h1
  clear hA0
  simp only [List.append_nil] at hW'
  refine (law aT cT lT aX cX lX W wT wX (errs_of hL (by rfl))).mono fun e W' ⟨he, hg⟩ => ?_
  subst he
  exact ⟨_, rfl, post_of_below (pv := [.cell 0 0]) hW' (fun _ _ _ => trodAll_cons_mk (shut_bool Tryd.underlying4 _) trodAll_mk0)
    (fun sp hs => trodAll_cons_mk (trod_keeps (t := 31) (by kernel_rfl) (by kernel_rfl) (by kernel_rfl) k0 hg (fun x hx => hW'.lt x (by simp_all)) (fun x hx => hs x (by simp_all))) (trodAll_cons_mk (trod_keeps (t := 24) (by kernel_rfl) (by kernel_rfl) (by kernel_rfl) k1 hg (fun x hx => hW'.lt x (by simp_all)) (fun x hx => hs x (by simp_all))) (trodAll_mk0)))
    (fun sp _ => hvr (Er.var_keeps hg Er.gGreat hsv) sp) (by simp) hg (ok_one (by kernel_rfl) rfl (okWide_bool_mk Tryd.underlying4 _))⟩

theorem laid_met (os : Os) : laidMetH Tryd.prog Rows.fnExactApplyTableRow.laid ((World.doorLaid Tryd.prog 28 os).forCall (fun _ _ => 0) ⟨#[], #[.slice none 0 0, .slice none 0 0], []⟩).memory :=
  Low.met os #[.slice none 0 0, .slice none 0 0] Rows.fnExactApplyTableRow.laid (Rows.fnExactApplyTableRow.laid.map (·.1)) (by rfl)
set_option maxRecDepth 100000 in
theorem lifted (os : Os) (started : os.Started) (H : Type) (enc : TypeId × Value → H) (F : Stop.Interp) :
    ReturnsInHanded {} Tryd.checked os 8 .any ((OpenSpec.ofChange Rows.fnExactApplyTableSpec).preRow enc Tryd.prog Tryd.f8 Rows.fnExactApplyTableRow.domain false Rows.fnExactApplyTableRow.laid) (((OpenSpec.ofChange Rows.fnExactApplyTableSpec).at F).post enc Tryd.prog Tryd.f8 false true false false) := by
  refine returnsInHanded_of_row (C := Tryd.checked) (s := OpenSpec.ofChange Rows.fnExactApplyTableSpec) Low.own started (by kernel_rfl) Tryd.func8
    (witness_row_atRef (enc := enc) (C := Tryd.checked) false (World.doorLaid Tryd.prog 28 os) #[.slice none 0 0, .slice none 0 0] (by unfold World.doorLaid; rfl) (Low.shapeB os #[.slice none 0 0, .slice none 0 0]) (Low.shapeR os #[.slice none 0 0, .slice none 0 0]) (by kernel_rfl)
      (OpenSpec.preRow_of_B rfl 8 (by kernel_rfl) (by kernel_rfl) (laid_met os))) ?_
  intro W base args ds gs before hval hW _ _ _ hL hShaped _
  exact contract H enc W base args ds gs before hval hW hL

theorem said : Rows.FnExactApplyTableSaid :=
  OpenClaim.holds_of_cond 8 Tryd.f8 rfl rfl rfl rfl rfl rfl rfl ⟨rfl, rfl, rfl, rfl, rfl⟩ rfl rfl rfl rfl rfl (by kernel_rfl) Tryd.func8 (by kernel_rfl)
    (of_decide_eq_true (by kernel_rfl)) (by unfold Func.isWrapper; first | (rw [if_pos (by decide +kernel)]; kernel_rfl) | (rw [if_neg (by decide +kernel)]; exact ⟨rfl, rfl⟩))
    (fun os started H enc _ F => by rw [OpenClaim.pre_eq_preRow]; exact lifted os started H enc F)

theorem looks (f : FuncId) (fn : Func) (hf : Tryd.pinned.checked.prog.funcNamed "loop.example/g03105/laws.FnExactApplyTable" = some f) (hfn : Tryd.pinned.checked.prog.funcs[f]? = some fn) :
    true = Tryd.pinned.checked.prog.looks [] ∧ ∀ (j : Nat) t, fn.params[j]? = some t → Tryd.pinned.checked.prog.wantsStandIn t = false := by
  obtain rfl : f = 8 := Option.some.inj ((show Tryd.prog.funcNamed "loop.example/g03105/laws.FnExactApplyTable" = some 8 by kernel_rfl).symm.trans hf) |>.symm
  obtain rfl : fn = Tryd.f8 := (Option.some.inj (Tryd.func8.symm.trans hfn)).symm
  refine ⟨by kernel_rfl, fun j t ht => ?_⟩
  rw [Tryd.params8] at ht
  have hm : t ∈ [31, 24] := by simpa using Array.mem_of_getElem? ht
  have hall : ([31, 24].all fun u => !Tryd.prog.wantsStandIn u) = true := by kernel_rfl
  exact (show Tryd.prog.wantsStandIn t = false by simpa using List.all_eq_true.1 hall t hm)

theorem card : Rows.FnExactApplyTableCardSaid :=
  Claim7.holds_tied_plain_at .later [] _ _ _ _ said (fun _ h => by cases h) (by kernel_rfl) (fun _ h => by cases h) fnExactApplyTable_row_tie rfl ⟨rfl, rfl⟩ (by kernel_rfl) rfl looks (by kernel_rfl)
end Go.Proofs.YtamgimdjnmcpaaaDoor.fnExactApplyTable
