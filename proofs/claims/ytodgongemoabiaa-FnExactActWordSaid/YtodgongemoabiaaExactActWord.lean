/-
  At every argument the program's ActWord returns what the model returns, writes into no argument, and its answer owns its memory.
-/
import Derived.Test.YtodgongemoabiaaBase
import Derived.Test.YtodgongemoabiaaLow
import Derived.Test.YtodgongemoabiaaSlice
import Derived.Test.YtodgongemoabiaaIntRow
import Derived.Test.YtodgongemoabiaaInts
import Derived.Test.YtodgongemoabiaaOwn
import Derived.Test.YtodgongemoabiaaGrid
import Derived.Test.YtodgongemoabiaaGridWalk
import Derived.Test.YtodgongemoabiaaGridWalk2
import Derived.Test.YtodgongemoabiaaGridMark
import Derived.Test.YtodgongemoabiaaCov
import Derived.Test.YtodgongemoabiaaAdActWord
import Derived.Test.YtodgongemoabiaaReadInts
import Derived.Test.YtodgongemoabiaaReadRows
import Derived.Deep.DeepWitnessRowRef
import Derived.OpenShut
import Derived.Deep.DeepHandedRow
import Derived.LaidMore
namespace Go.Proofs.Ytodgongemoabiaa.fnExactActWord
open Go.ChangeShapes Go.WideShapes Go.ChangeAt Go.RowKit Go.Sort
open Go.ChangeMaps (open_string)

set_option maxRecDepth 10000 in
set_option maxHeartbeats 2000000 in
theorem law (aList : Option Addr) (cList : Nat) (LList : List (List Int)) (aW : Option Addr) (cW : Nat) (lW : List Int) (w : World) (hhList : GridAt w aList LList ∧ LList.length ≤ maxLen ∧ (∀ r ∈ LList, r.length ≤ maxLen) ∧ ∀ r ∈ LList, I64s r) (hhW : RowAt w aW (intCells lW) ∧ lW.length ≤ maxLen ∧ I64s lW) :
    Calls Try.prog 4 #[.slice aList LList.length cList, .slice aW lW.length cW] w fun e w' => e = .returned (.bool true) ∧ Below w.heap.size w w' := by
  have hZB0 := Below.refl w.heap.size w
  obtain ⟨hAList, hmList, hrList, hIList⟩ := hhList
  have hAList := Lib.hid hAList
  have hIList := Lib.hid hIList
  have hMList := Lib.hid (show LList.length ≤ 9223372036854775807 ∧ ∀ r ∈ LList, r.length ≤ 9223372036854775807 from ⟨hmList, hrList⟩); clear hrList
  unfold maxLen at hmList
  obtain ⟨hAW, hMW, hIW⟩ := hhW
  have hAW := Lib.hid hAW
  have hIW := Lib.hid hIW
  unfold maxLen at hMW
  by_cases hlW : lW.length ≤ 1048576
  · skip
    have hLW := Lib.hid hlW
    by_cases hfList : tot LList ≤ 1048576
    · skip
      have hLList := Lib.hid (show tot LList ≤ 1048576 by omega)
      have hFList := Lib.hid hfList; clear hfList
      have hSList := Lib.hid (show sumLen LList ≤ 1048576 by have := hLList.out; unfold tot at this; omega)
      have hTList : LList.length ≤ 1048576 := by have := hLList.out; unfold tot at this; omega
      have hZN0 := Lib.hid ((Nat.le_trans (Cv.actW_len LList lW) (by decide)) : (Cv.actW LList lW).length ≤ 1000000)
      have c_spec := fun (aaList : Option Addr) (ccList : Nat) (aaW : Option Addr) (ccW : Nat) (W : World) (hrList : GridAt W aaList LList) (hrW : RowAt W aaW (intCells lW)) => spec_ActWord aaList ccList LList aaW ccW lW W hrList hLList.out hrW hLW.out
      have c_impl := fun (aaList : Option Addr) (ccList : Nat) (aaW : Option Addr) (ccW : Nat) (W : World) (hrList : GridAt W aaList LList) (hrW : RowAt W aaW (intCells lW)) => impl_ActWord aaList ccList LList aaW ccW lW W hrList hLList.out hrW hLW.out
      generalize hV0 : Cv.actW LList lW = R0 at *
      clear hV0
      have Hs := Lib.hid c_spec; have Hi := Lib.hid c_impl; clear c_spec c_impl
      go_enter Try.func4, Try.ntmps4
      go_wp2_with fail
      refine (szIntSS_fit aList cList 1048576 LList w (hAList.out.below hZB0) hMList.out (by omega) hFList.out).mono ?_
      rintro e w1 ⟨rfl, h1⟩
      have h2 := Lib.hid (h1.size)
      have hZB3 : Below w.heap.size w w1 := hZB0.trans (h1.mono hZB0.size)
      clear h1
      go_wp2_with fail
      refine (toIntSS aList cList LList w1 (hAList.out.below hZB3) hLList.out).mono ?_
      rintro e w2 ⟨rfl, h5, h6⟩
      have h7 := Lib.hid (h5); clear h5
      have h8 := Lib.hid (h6.size)
      have hZB9 : Below w.heap.size w w2 := hZB3.trans (h6.mono hZB3.size)
      clear h6
      go_wp2_with fail
      refine (toIntS aW cW lW w2 (hAW.out.below hZB9) hLW.out).mono ?_
      rintro e w3 ⟨rfl, h11, h12⟩
      have h13 := Lib.hid (RowIn.of_blk (lo := w2.heap.size) (hi := w3.heap.size) h11 (Nat.le_refl _) h11.lt); clear h11
      have h14 := Lib.hid (h12.size)
      have hZB15 : Below w.heap.size w w3 := hZB9.trans (h12.mono hZB9.size)
      have h16 := Lib.hid (h7.out.below h12); clear h7
      clear h12
      go_wp2_with fail
      refine (Hs.out (some ⟨w1.heap.size, 0, none⟩) LList.length (some ⟨w2.heap.size, 0, none⟩) lW.length w3 h16.out.grid h13.out.row).mono ?_
      rintro e w4 ⟨ra18, rc19, rfl, _, _, hf20, h17⟩
      have h21 := Lib.hid (hf20.row); clear hf20
      have h22 := Lib.hid (h17.size)
      have hZB23 : Below w.heap.size w w4 := hZB15.trans (h17.mono hZB15.size)
      have h24 := Lib.hid (h16.out.below h17); clear h16
      have h25 := Lib.hid (h13.out.below h17); clear h13
      clear h17
      have h26 := Lib.hid (Below.refl w4.heap.size w4)
      clear h24
      clear h25
      go_wp2_with fail
      refine (toIntSS aList cList LList w4 (hAList.out.below hZB23) hLList.out).mono ?_
      rintro e w5 ⟨rfl, h27, h28⟩
      have h29 := Lib.hid (h27); clear h27
      have h30 := Lib.hid (h28.size)
      have hZB31 : Below w.heap.size w w5 := hZB23.trans (h28.mono hZB23.size)
      have h32 := Lib.hid (h26.out.trans (h28.mono h26.out.size)); clear h26
      clear h28
      go_wp2_with fail
      refine (toIntS aW cW lW w5 (hAW.out.below hZB31) hLW.out).mono ?_
      rintro e w6 ⟨rfl, h33, h34⟩
      have h35 := Lib.hid (RowIn.of_blk (lo := w5.heap.size) (hi := w6.heap.size) h33 (Nat.le_refl _) h33.lt); clear h33
      have h36 := Lib.hid (h34.size)
      have hZB37 : Below w.heap.size w w6 := hZB31.trans (h34.mono hZB31.size)
      have h38 := Lib.hid (h32.out.trans (h34.mono h32.out.size)); clear h32
      have h39 := Lib.hid (h29.out.below h34); clear h29
      clear h34
      go_wp2_with fail
      refine (Hi.out (some ⟨w4.heap.size, 0, none⟩) LList.length (some ⟨w5.heap.size, 0, none⟩) lW.length w6 h39.out.grid h35.out.row).mono ?_
      rintro e w7 ⟨ra41, rc42, rfl, _, _, hf43, h40⟩
      have h44 := Lib.hid (RowIn.of_fresh hf43); clear hf43
      have h45 := Lib.hid (h40.size)
      have hZB46 : Below w.heap.size w w7 := hZB37.trans (h40.mono hZB37.size)
      have h47 := Lib.hid (h38.out.trans (h40.mono h38.out.size)); clear h38
      have h48 := Lib.hid (h39.out.below h40); clear h39
      have h49 := Lib.hid (h35.out.below h40); clear h35
      clear h40
      go_wp2_with fail
      refine (eqIntS ra41 ra18 rc42 rc19 R0 w7 h44.out.row (h21.out.below h47.out) (Nat.le_trans hZN0.out (by decide))).mono ?_
      rintro e w8 ⟨rfl, h50⟩
      have h51 := Lib.hid (h50.size)
      have hZB52 : Below w.heap.size w w8 := hZB46.trans (h50.mono hZB46.size)
      have h53 := Lib.hid (h47.out.trans (h50.mono h47.out.size)); clear h47
      have h54 := Lib.hid (h48.out.below h50); clear h48
      have h55 := Lib.hid (h49.out.below h50); clear h49
      have h56 := Lib.hid (h44.out.below h50); clear h44
      clear h50
      go_wp2_with fail
      refine (toIntSS aList cList LList w8 (hAList.out.below hZB52) hLList.out).mono ?_
      rintro e w9 ⟨rfl, h58, h59⟩
      have h60 := Lib.hid (h58); clear h58
      have h61 := Lib.hid (h59.size)
      have hZB62 : Below w.heap.size w w9 := hZB52.trans (h59.mono hZB52.size)
      have h63 := Lib.hid (h53.out.trans (h59.mono h53.out.size)); clear h53
      have h64 := Lib.hid (h54.out.below h59); clear h54
      have h65 := Lib.hid (h55.out.below h59); clear h55
      have h66 := Lib.hid (h56.out.below h59); clear h56
      clear h59
      go_wp2_with fail
      refine (eqIntSS (some ⟨w4.heap.size, 0, none⟩) (some ⟨w8.heap.size, 0, none⟩) LList.length LList.length LList w9 h64.out.grid h60.out.grid (Nat.le_trans hLList.out (by decide))).mono ?_
      rintro e w10 ⟨rfl, h67⟩
      have h68 := Lib.hid (h67.size)
      have hZB69 : Below w.heap.size w w10 := hZB62.trans (h67.mono hZB62.size)
      have h70 := Lib.hid (h63.out.trans (h67.mono h63.out.size)); clear h63
      have h71 := Lib.hid (h64.out.below h67); clear h64
      have h72 := Lib.hid (h65.out.below h67); clear h65
      have h73 := Lib.hid (h60.out.below h67); clear h60
      have h74 := Lib.hid (h66.out.below h67); clear h66
      clear h67
      clear h73
      go_wp2_with fail
      refine (toIntS aW cW lW w10 (hAW.out.below hZB69) hLW.out).mono ?_
      rintro e w11 ⟨rfl, h76, h77⟩
      have h78 := Lib.hid (RowIn.of_blk (lo := w10.heap.size) (hi := w11.heap.size) h76 (Nat.le_refl _) h76.lt); clear h76
      have h79 := Lib.hid (h77.size)
      have hZB80 : Below w.heap.size w w11 := hZB69.trans (h77.mono hZB69.size)
      have h81 := Lib.hid (h70.out.trans (h77.mono h70.out.size)); clear h70
      have h82 := Lib.hid (h71.out.below h77); clear h71
      have h83 := Lib.hid (h72.out.below h77); clear h72
      have h84 := Lib.hid (h74.out.below h77); clear h74
      clear h77
      go_wp2_with fail
      refine (eqIntS (some ⟨w5.heap.size, 0, none⟩) (some ⟨w10.heap.size, 0, none⟩) lW.length lW.length lW w11 h83.out.row h78.out.row (Nat.le_trans hLW.out (by decide))).mono ?_
      rintro e w12 ⟨rfl, h85⟩
      have h86 := Lib.hid (h85.size)
      have hZB87 : Below w.heap.size w w12 := hZB80.trans (h85.mono hZB80.size)
      have h88 := Lib.hid (h81.out.trans (h85.mono h81.out.size)); clear h81
      have h89 := Lib.hid (h82.out.below h85); clear h82
      have h90 := Lib.hid (h83.out.below h85); clear h83
      have h91 := Lib.hid (h78.out.below h85); clear h78
      have h92 := Lib.hid (h84.out.below h85); clear h84
      clear h85
      clear h91
      go_wp2_with fail
      refine (markIntSS (some ⟨w4.heap.size, 0, none⟩) LList.length 1 w4.heap.size w5.heap.size LList w12 h89.out (by have := h2.out; have := h8.out; have := h14.out; have := h22.out; have := h30.out; have := h36.out; have := h45.out; have := h51.out; have := h61.out; have := h68.out; have := h79.out; have := h86.out; have := hLW.out; have := hSList.out; have := hZN0.out; omega) (Nat.le_trans hLList.out (by decide))).mono ?_
      rintro e w13 ⟨rfl, h94, h93⟩
      have hZB95 : Below w.heap.size w w13 := hZB87.trans (h93.below (by have := h2.out; have := h8.out; have := h14.out; have := h22.out; have := h30.out; have := h36.out; have := h45.out; have := h51.out; have := h61.out; have := h68.out; have := h79.out; have := h86.out; have := hLW.out; have := hSList.out; have := hZN0.out; omega) hZB87.size)
      have h96 := Lib.hid (h88.out.trans (h93.below (by have := h2.out; have := h8.out; have := h14.out; have := h22.out; have := h30.out; have := h36.out; have := h45.out; have := h51.out; have := h61.out; have := h68.out; have := h79.out; have := h86.out; have := hLW.out; have := hSList.out; have := hZN0.out; omega) h88.out.size)); clear h88
      have h97 := Lib.hid (h90.out.only h93 (by have := h2.out; have := h8.out; have := h14.out; have := h22.out; have := h30.out; have := h36.out; have := h45.out; have := h51.out; have := h61.out; have := h68.out; have := h79.out; have := h86.out; have := hLW.out; have := hSList.out; have := hZN0.out; omega)); clear h90
      have h98 := Lib.hid (h92.out.only h93 (by have := h2.out; have := h8.out; have := h14.out; have := h22.out; have := h30.out; have := h36.out; have := h45.out; have := h51.out; have := h61.out; have := h68.out; have := h79.out; have := h86.out; have := hLW.out; have := hSList.out; have := hZN0.out; omega)); clear h92
      have h99 := Lib.hid (h93.size)
      clear h93 h89
      clear h94
      go_wp2_with fail
      refine (markIntS_only (some ⟨w5.heap.size, 0, none⟩) lW.length (1 + sumLen LList) w5.heap.size w6.heap.size lW w13 h97.out (by have := h2.out; have := h8.out; have := h14.out; have := h22.out; have := h30.out; have := h36.out; have := h45.out; have := h51.out; have := h61.out; have := h68.out; have := h79.out; have := h86.out; have := h99.out; have := hLW.out; have := hSList.out; have := hZN0.out; omega) (by have := h2.out; have := h8.out; have := h14.out; have := h22.out; have := h30.out; have := h36.out; have := h45.out; have := h51.out; have := h61.out; have := h68.out; have := h79.out; have := h86.out; have := h99.out; have := hLW.out; have := hSList.out; have := hZN0.out; omega)).mono ?_
      rintro e w14 ⟨rfl, h101, h100⟩
      have hZB102 : Below w.heap.size w w14 := hZB95.trans (h100.below (by have := h2.out; have := h8.out; have := h14.out; have := h22.out; have := h30.out; have := h36.out; have := h45.out; have := h51.out; have := h61.out; have := h68.out; have := h79.out; have := h86.out; have := h99.out; have := hLW.out; have := hSList.out; have := hZN0.out; omega) hZB95.size)
      have h103 := Lib.hid (h96.out.trans (h100.below (by have := h2.out; have := h8.out; have := h14.out; have := h22.out; have := h30.out; have := h36.out; have := h45.out; have := h51.out; have := h61.out; have := h68.out; have := h79.out; have := h86.out; have := h99.out; have := hLW.out; have := hSList.out; have := hZN0.out; omega) h96.out.size)); clear h96
      have h104 := Lib.hid (h98.out.only h100 (by have := h2.out; have := h8.out; have := h14.out; have := h22.out; have := h30.out; have := h36.out; have := h45.out; have := h51.out; have := h61.out; have := h68.out; have := h79.out; have := h86.out; have := h99.out; have := hLW.out; have := hSList.out; have := hZN0.out; omega)); clear h98
      have h105 := Lib.hid (h100.size)
      clear h100 h97
      clear h101
      go_wp2_with fail
      refine (eqIntS ra41 ra18 rc42 rc19 R0 w14 h104.out.row (h21.out.below h103.out) (Nat.le_trans hZN0.out (by decide))).mono ?_
      rintro e w15 ⟨rfl, h106⟩
      have h107 := Lib.hid (h106.size)
      have hZB108 : Below w.heap.size w w15 := hZB102.trans (h106.mono hZB102.size)
      have h109 := Lib.hid (h103.out.trans (h106.mono h103.out.size)); clear h103
      have h110 := Lib.hid (h104.out.below h106); clear h104
      clear h106
      go_wp2_with fail
      refine (markIntS_only ra41 rc42 1 w6.heap.size w7.heap.size R0 w15 h110.out (by have := h2.out; have := h8.out; have := h14.out; have := h22.out; have := h30.out; have := h36.out; have := h45.out; have := h51.out; have := h61.out; have := h68.out; have := h79.out; have := h86.out; have := h99.out; have := h105.out; have := h107.out; have := hLW.out; have := hSList.out; have := hZN0.out; omega) (by have := h2.out; have := h8.out; have := h14.out; have := h22.out; have := h30.out; have := h36.out; have := h45.out; have := h51.out; have := h61.out; have := h68.out; have := h79.out; have := h86.out; have := h99.out; have := h105.out; have := h107.out; have := hLW.out; have := hSList.out; have := hZN0.out; omega)).mono ?_
      rintro e w16 ⟨rfl, h112, h111⟩
      have hZB113 : Below w.heap.size w w16 := hZB108.trans (h111.below (by have := h2.out; have := h8.out; have := h14.out; have := h22.out; have := h30.out; have := h36.out; have := h45.out; have := h51.out; have := h61.out; have := h68.out; have := h79.out; have := h86.out; have := h99.out; have := h105.out; have := h107.out; have := hLW.out; have := hSList.out; have := hZN0.out; omega) hZB108.size)
      have h114 := Lib.hid (h109.out.trans (h111.below (by have := h2.out; have := h8.out; have := h14.out; have := h22.out; have := h30.out; have := h36.out; have := h45.out; have := h51.out; have := h61.out; have := h68.out; have := h79.out; have := h86.out; have := h99.out; have := h105.out; have := h107.out; have := hLW.out; have := hSList.out; have := hZN0.out; omega) h109.out.size)); clear h109
      have h115 := Lib.hid (h111.size)
      clear h111 h110
      have h116 := Lib.hid (h112); clear h112
      go_wp2_with fail
      refine (heldIntS ra41 R0.length rc42 1 w16 h116.out.row (by have := h2.out; have := h8.out; have := h14.out; have := h22.out; have := h30.out; have := h36.out; have := h45.out; have := h51.out; have := h61.out; have := h68.out; have := h79.out; have := h86.out; have := h99.out; have := h105.out; have := h107.out; have := h115.out; have := hLW.out; have := hSList.out; have := hZN0.out; omega) (by have := h2.out; have := h8.out; have := h14.out; have := h22.out; have := h30.out; have := h36.out; have := h45.out; have := h51.out; have := h61.out; have := h68.out; have := h79.out; have := h86.out; have := h99.out; have := h105.out; have := h107.out; have := h115.out; have := hLW.out; have := hSList.out; have := hZN0.out; omega)).mono ?_
      rintro e w17 ⟨rfl, h117⟩
      have h118 := Lib.hid (h117.size)
      have hZB119 : Below w.heap.size w w17 := hZB113.trans (h117.mono hZB113.size)
      have h120 := Lib.hid (h114.out.trans (h117.mono h114.out.size)); clear h114
      have h121 := Lib.hid (h116.out.below h117); clear h116
      clear h117
      go_wp2_with fail
      refine (toIntSS aList cList LList w17 (hAList.out.below hZB119) hLList.out).mono ?_
      rintro e w18 ⟨rfl, h123, h124⟩
      have h125 := Lib.hid (h123); clear h123
      have h126 := Lib.hid (h124.size)
      have hZB127 : Below w.heap.size w w18 := hZB119.trans (h124.mono hZB119.size)
      have h128 := Lib.hid (h120.out.trans (h124.mono h120.out.size)); clear h120
      have h129 := Lib.hid (h121.out.below h124); clear h121
      clear h124
      go_wp2_with fail
      refine (toIntS aW cW lW w18 (hAW.out.below hZB127) hLW.out).mono ?_
      rintro e w19 ⟨rfl, h131, h132⟩
      have h133 := Lib.hid (RowIn.of_blk (lo := w18.heap.size) (hi := w19.heap.size) h131 (Nat.le_refl _) h131.lt); clear h131
      have h134 := Lib.hid (h132.size)
      have hZB135 : Below w.heap.size w w19 := hZB127.trans (h132.mono hZB127.size)
      have h136 := Lib.hid (h128.out.trans (h132.mono h128.out.size)); clear h128
      have h137 := Lib.hid (h125.out.below h132); clear h125
      have h138 := Lib.hid (h129.out.below h132); clear h129
      clear h132
      go_wp2_with fail
      refine (Hi.out (some ⟨w17.heap.size, 0, none⟩) LList.length (some ⟨w18.heap.size, 0, none⟩) lW.length w19 h137.out.grid h133.out.row).mono ?_
      rintro e w20 ⟨ra140, rc141, rfl, _, _, hf142, h139⟩
      have h143 := Lib.hid (RowIn.of_fresh hf142); clear hf142
      have h144 := Lib.hid (h139.size)
      have hZB145 : Below w.heap.size w w20 := hZB135.trans (h139.mono hZB135.size)
      have h146 := Lib.hid (h136.out.trans (h139.mono h136.out.size)); clear h136
      have h147 := Lib.hid (h137.out.below h139); clear h137
      have h148 := Lib.hid (h133.out.below h139); clear h133
      have h149 := Lib.hid (h138.out.below h139); clear h138
      clear h139
      clear h147
      clear h148
      go_wp2_with fail
      refine (eqIntS ra140 ra18 rc141 rc19 R0 w20 h143.out.row (h21.out.below h146.out) (Nat.le_trans hZN0.out (by decide))).mono ?_
      rintro e w21 ⟨rfl, h150⟩
      have h151 := Lib.hid (h150.size)
      have hZB152 : Below w.heap.size w w21 := hZB145.trans (h150.mono hZB145.size)
      have h153 := Lib.hid (h146.out.trans (h150.mono h146.out.size)); clear h146
      have h154 := Lib.hid (h149.out.below h150); clear h149
      have h155 := Lib.hid (h143.out.below h150); clear h143
      clear h150
      go_wp2_with fail
      refine (heldIntS ra41 R0.length rc42 1 w21 h154.out.row (by have := h2.out; have := h8.out; have := h14.out; have := h22.out; have := h30.out; have := h36.out; have := h45.out; have := h51.out; have := h61.out; have := h68.out; have := h79.out; have := h86.out; have := h99.out; have := h105.out; have := h107.out; have := h115.out; have := h118.out; have := h126.out; have := h134.out; have := h144.out; have := h151.out; have := hLW.out; have := hSList.out; have := hZN0.out; omega) (by have := h2.out; have := h8.out; have := h14.out; have := h22.out; have := h30.out; have := h36.out; have := h45.out; have := h51.out; have := h61.out; have := h68.out; have := h79.out; have := h86.out; have := h99.out; have := h105.out; have := h107.out; have := h115.out; have := h118.out; have := h126.out; have := h134.out; have := h144.out; have := h151.out; have := hLW.out; have := hSList.out; have := hZN0.out; omega)).mono ?_
      rintro e w22 ⟨rfl, h156⟩
      have h157 := Lib.hid (h156.size)
      have hZB158 : Below w.heap.size w w22 := hZB152.trans (h156.mono hZB152.size)
      have h159 := Lib.hid (h153.out.trans (h156.mono h153.out.size)); clear h153
      have h160 := Lib.hid (h154.out.below h156); clear h154
      have h161 := Lib.hid (h155.out.below h156); clear h155
      clear h156
      go_wp2
      go_ret
      exact ⟨rfl, hZB158⟩
    · have hLList := Lib.hid hfList
      clear hfList
      go_enter Try.func4, Try.ntmps4
      go_wp2_with fail
      refine (szIntSS_big aList cList 1048576 LList w (hAList.out.below hZB0) hMList.out (by omega) hLList.out).mono ?_
      rintro e w1 ⟨rfl, h162⟩
      have h163 := Lib.hid (h162.size)
      have hZB164 : Below w.heap.size w w1 := hZB0.trans (h162.mono hZB0.size)
      clear h162
      go_wp2
      go_ret
      exact ⟨rfl, hZB164⟩
  · have hbig : 1048576 < lW.length := by omega
    go_enter Try.func4, Try.ntmps4
    go_wp2
    go_ret
    exact ⟨rfl, Below.refl _ _⟩

set_option maxRecDepth 100000 in
theorem contract (H : Type) (enc : TypeId × Value → H) (W : World) (base : Nat) (args : Array Value) (ds gs : List (DataW H)) (before : List MemPlace)
    (hval : ∀ (j : Nat) t v, Try.f4.params[j]? = some t → args[j]? = some v → Value.okWide Try.prog W .any base t v)
    (hW : DataW.Whole enc Try.prog Try.f4.params.toList Rows.fnExactActWordSpec.vars false W args.toList ds gs before) :
    Calls Try.prog 4 args W fun e W' => ∃ v, e = .returned v ∧ Rows.fnExactActWordSpec.post enc Try.prog Try.f4 false true false false W args v W' := by
  have hW' := hW
  obtain ⟨p, q, hA0, hV, rfl, hfz, hnd⟩ := hW
  have hA : DataW.TrodAll enc Try.prog W 0 (fun _ => true) true Try.f4.params.toList args.toList ds p := hA0
  rw [Try.params4] at hA hval
  obtain ⟨v0, vs0, d0, ds0, p0, q0, hargs, rfl, rfl, h0, r0⟩ := trodAll_cons hA
  obtain ⟨v1, vs1, d1, ds1, p1, q1, rfl, rfl, rfl, h1, r1⟩ := trodAll_cons r0
  obtain ⟨rfl, rfl, rfl⟩ := trodAll_nil r1
  obtain rfl : args = #[v0, v1] := by cases args; simp_all
  obtain ⟨rfl, rfl⟩ := trodVars_none hV
  have k0 := h0
  have k1 := h1
  obtain ⟨aList, cList, lList, rfl, wList⟩ := Read.rows_of (hval 0 24 v0 rfl rfl) h0
  obtain ⟨aW, cW, lW, rfl, wW⟩ := Read.ints_of (hval 1 42 v1 rfl rfl) h1
  clear hA0
  simp only [List.append_nil] at hW'
  refine (law aList cList lList aW cW lW W wList wW).mono fun e W' ⟨he, hg⟩ => ?_
  subst he
  exact ⟨_, rfl, post_of_below (pv := []) hW' (fun _ _ _ => trodAll_cons_mk (shut_bool Try.underlying4 _) trodAll_mk0)
    (fun sp hs => trodAll_cons_mk (trod_keeps (t := 24) (by kernel_rfl) (by kernel_rfl) (by kernel_rfl) k0 hg (fun x hx => hW'.lt x (by simp_all)) (fun x hx => hs x (by simp_all))) (trodAll_cons_mk (trod_keeps (t := 42) (by kernel_rfl) (by kernel_rfl) (by kernel_rfl) k1 hg (fun x hx => hW'.lt x (by simp_all)) (fun x hx => hs x (by simp_all))) (trodAll_mk0)))
    (fun _ _ => rfl) (by simp) hg (ok_one (by kernel_rfl) rfl (okWide_bool_mk Try.underlying4 _))⟩

theorem reads (os : Os) {H : Type} (enc : TypeId × Value → H) : ∃ places, DataW.whole enc Try.prog ((World.holding Try.prog os ⟨#[], #[], []⟩).forCall (fun _ _ => 0) ⟨#[], #[.slice none 0 0, .slice none 0 0], []⟩).memory Try.f4.params.toList Rows.fnExactActWordSpec.vars false (#[.slice none 0 0, .slice none 0 0] : Array Value).toList 8 = some ([.nil, .nil], [], places) :=
  ⟨[], by kernel_rfl⟩

set_option maxRecDepth 100000 in
theorem lifted (os : Os) (started : os.Started) (H : Type) (enc : TypeId × Value → H) (F : Stop.Interp) :
    ReturnsInHanded {} Try.checked os 4 .any ((OpenSpec.ofChange Rows.fnExactActWordSpec).preRow enc Try.prog Try.f4 Rows.fnExactActWordRow.domain false Rows.fnExactActWordRow.laid) (((OpenSpec.ofChange Rows.fnExactActWordSpec).at F).post enc Try.prog Try.f4 false true false false) := by
  obtain ⟨places, hx⟩ := reads os enc
  refine returnsInHanded_of_row (C := Try.checked) (s := OpenSpec.ofChange Rows.fnExactActWordSpec) Low.own started (by kernel_rfl) Try.func4
    (witness_row_at (enc := enc) (C := Try.checked) false (World.holding Try.prog os ⟨#[], #[], []⟩) #[.slice none 0 0, .slice none 0 0] rfl (by kernel_rfl) (by kernel_rfl) (by kernel_rfl)
      (OpenSpec.preRow_of_cond 8 hx (by kernel_rfl) (fun k hk => by cases hk) (by kernel_rfl) (laidMet_nil _ _))) ?_
  intro W base args ds gs before hval hW _ _ _ hL hShaped _
  exact contract H enc W base args ds gs before hval hW 

theorem said : Rows.FnExactActWordSaid :=
  OpenClaim.holds_of_cond 4 Try.f4 rfl rfl rfl rfl rfl rfl rfl ⟨rfl, rfl, rfl, rfl, rfl⟩ rfl rfl rfl rfl rfl (by kernel_rfl) Try.func4 (by kernel_rfl)
    (of_decide_eq_true (by kernel_rfl)) (by unfold Func.isWrapper; first | (rw [if_pos (by decide +kernel)]; kernel_rfl) | (rw [if_neg (by decide +kernel)]; exact ⟨rfl, rfl⟩))
    (fun os started H enc _ F => by rw [OpenClaim.pre_eq_preRow]; exact lifted os started H enc F)
end Go.Proofs.Ytodgongemoabiaa.fnExactActWord
