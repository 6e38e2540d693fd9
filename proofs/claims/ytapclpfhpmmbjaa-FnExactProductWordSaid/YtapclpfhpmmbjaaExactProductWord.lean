/-
  At every argument the program's ProductWord returns what the model returns, writes into no argument, and its answer owns its memory.
-/
import Derived.Test.YtapclpfhpmmbjaaBase
import Derived.Test.YtapclpfhpmmbjaaLow
import Derived.Test.YtapclpfhpmmbjaaSlice
import Derived.Test.YtapclpfhpmmbjaaInts
import Derived.Test.YtapclpfhpmmbjaaReadInts
import Derived.Test.YtapclpfhpmmbjaaWord
import Derived.Test.YtapclpfhpmmbjaaIsWord
import Derived.Test.YtapclpfhpmmbjaaReduce
import Derived.Test.YtapclpfhpmmbjaaReduceSpec
import Derived.Test.YtapclpfhpmmbjaaAppend
import Derived.Test.YtapclpfhpmmbjaaConcat
import Derived.Test.YtapclpfhpmmbjaaProd
import Derived.Deep.DeepWitnessRowRef
import Derived.OpenShut
import Derived.Deep.DeepHandedRow
import Derived.LaidMore
namespace Go.Proofs.Ytapclpfhpmmbjaa.fnExactProductWord
open Go.ChangeShapes Go.WideShapes Go.ChangeAt Go.RowKit Go.Sort
open Go.ChangeMaps (open_string)

set_option maxRecDepth 10000 in
set_option maxHeartbeats 2000000 in
theorem law (aV : Option Addr) (cV : Nat) (lV : List Int) (aW : Option Addr) (cW : Nat) (lW : List Int) (w : World) (hhV : RowAt w aV (intCells lV) ∧ lV.length ≤ maxLen ∧ I64s lV) (hhW : RowAt w aW (intCells lW) ∧ lW.length ≤ maxLen ∧ I64s lW) :
    Calls Try.prog 13 #[.slice aV lV.length cV, .slice aW lW.length cW] w fun e w' => e = .returned (.bool true) ∧ Below w.heap.size w w' := by
  have hB0 := Below.refl w.heap.size w
  obtain ⟨hAV, hMV, hIV⟩ := hhV
  have hAV := Lib.hid hAV
  have hIV := Lib.hid hIV
  unfold maxLen at hMV
  obtain ⟨hAW, hMW, hIW⟩ := hhW
  have hAW := Lib.hid hAW
  have hIW := Lib.hid hIW
  unfold maxLen at hMW
  by_cases hLV : lV.length ≤ 1048576
  · skip
    by_cases hLW : lW.length ≤ 1048576
    · skip
      have hN0 := Lib.hid ((Nat.le_trans (prod_len lV lW) (by decide)) : (Word.product lV lW).length ≤ 1000000)
      have c_spec := fun (aaV : Option Addr) (ccV : Nat) (aaW : Option Addr) (ccW : Nat) (W : World) (hrV : RowAt W aaV (intCells lV)) (hrW : RowAt W aaW (intCells lW)) => spec_ProductWord aaV ccV lV aaW ccW lW W hrV hLV hrW hLW
      have c_impl := fun (aaV : Option Addr) (ccV : Nat) (aaW : Option Addr) (ccW : Nat) (W : World) (hrV : RowAt W aaV (intCells lV)) (hrW : RowAt W aaW (intCells lW)) => impl_ProductWord aaV ccV lV aaW ccW lW W hrV hLV hrW hLW
      generalize hV0 : Word.product lV lW = R0 at *
      clear hV0
      generalize hV1 : (decide (Word.IsW (lV ++ lW))) = S1 at *
      clear hV1
      have Hs := Lib.hid c_spec; have Hi := Lib.hid c_impl; clear c_spec c_impl
      go_enter Try.func13, Try.ntmps13
      have h2 := Lib.hid (hB0.size)
      go_wp2_with fail
      refine (toIntS aV cV lV w (hAV.out.below hB0) hLV).mono ?_
      rintro e w1 ⟨rfl, h3, h4⟩
      have h5 := Lib.hid (h3); clear h3
      have hB6 : Below w.heap.size w w1 := hB0.trans (h4.mono hB0.size)
      clear h4
      have h8 := Lib.hid (hB6.size)
      have h9 := Lib.hid (h5.out.lt)
      go_wp2_with fail
      refine (toIntS aW cW lW w1 (hAW.out.below hB6) hLW).mono ?_
      rintro e w2 ⟨rfl, h10, h11⟩
      have h12 := Lib.hid (h10); clear h10
      have hB13 : Below w.heap.size w w2 := hB6.trans (h11.mono hB6.size)
      have h14 := Lib.hid (h5.out.below h11 h5.out.lt); clear h5
      clear h11
      go_wp2_with fail
      refine (Hs.out (some ⟨w.heap.size, 0, none⟩) lV.length (some ⟨w1.heap.size, 0, none⟩) lW.length w2 h14.out.row h12.out.row).mono ?_
      rintro e w3 ⟨ra16, rc17, rfl, _, _, hf18, h15⟩
      have h19 := Lib.hid (hf18.row); clear hf18
      have hB20 : Below w.heap.size w w3 := hB13.trans (h15.mono hB13.size)
      have h21 := Lib.hid (h14.out.below h15 h14.out.lt); clear h14
      have h22 := Lib.hid (h12.out.below h15 h12.out.lt); clear h12
      clear h15
      have h23 := Lib.hid (Below.refl w3.heap.size w3)
      clear h21
      clear h22
      have h24 := Lib.hid (hB20.size)
      have h25 := Lib.hid (h23.out.size)
      go_wp2_with fail
      refine (toIntS aV cV lV w3 (hAV.out.below hB20) hLV).mono ?_
      rintro e w4 ⟨rfl, h26, h27⟩
      have h28 := Lib.hid (h26); clear h26
      have hB29 : Below w.heap.size w w4 := hB20.trans (h27.mono hB20.size)
      have h30 := Lib.hid (h23.out.trans (h27.mono h23.out.size)); clear h23
      clear h27
      have h31 := Lib.hid (hB29.size)
      have h32 := Lib.hid (h30.out.size)
      have h33 := Lib.hid (h28.out.lt)
      go_wp2_with fail
      refine (toIntS aW cW lW w4 (hAW.out.below hB29) hLW).mono ?_
      rintro e w5 ⟨rfl, h34, h35⟩
      have h36 := Lib.hid (h34); clear h34
      have hB37 : Below w.heap.size w w5 := hB29.trans (h35.mono hB29.size)
      have h38 := Lib.hid (h30.out.trans (h35.mono h30.out.size)); clear h30
      have h39 := Lib.hid (h28.out.below h35 h28.out.lt); clear h28
      clear h35
      go_wp2_with fail
      refine (Hi.out (some ⟨w3.heap.size, 0, none⟩) lV.length (some ⟨w4.heap.size, 0, none⟩) lW.length w5 h39.out.row h36.out.row).mono ?_
      rintro e w6 ⟨ra41, rc42, rfl, _, _, hf43, h40⟩
      have h44 := Lib.hid (hf43); clear hf43
      have h45 := Lib.hid (h40.size)
      have h46 := Lib.hid (hB37.size)
      have h47 := Lib.hid (h38.out.size)
      have h48 := Lib.hid (h39.out.lt)
      have h49 := Lib.hid (h36.out.lt)
      have hB50 : Below w.heap.size w w6 := hB37.trans (h40.mono hB37.size)
      have h51 := Lib.hid (h38.out.trans (h40.mono h38.out.size)); clear h38
      have h52 := Lib.hid (h39.out.below h40 h39.out.lt); clear h39
      have h53 := Lib.hid (h36.out.below h40 h36.out.lt); clear h36
      clear h40
      go_wp2_with fail
      refine (eqIntS ra41 ra16 rc42 rc17 R0 w6 h44.out.row (h19.out.below h51.out) (Nat.le_trans hN0.out (by decide))).mono ?_
      rintro e w7 ⟨rfl, h54⟩
      have hB55 : Below w.heap.size w w7 := hB50.trans (h54.mono hB50.size)
      have h56 := Lib.hid (h51.out.trans (h54.mono h51.out.size)); clear h51
      have h57 := Lib.hid (h52.out.below h54 h52.out.lt); clear h52
      have h58 := Lib.hid (h53.out.below h54 h53.out.lt); clear h53
      have h59 := Lib.hid (h44.out.below h54); clear h44
      have h60 := Lib.hid (Nat.le_trans h45.out h54.size); clear h45
      clear h54
      have h62 := Lib.hid (hB55.size)
      have h63 := Lib.hid (h56.out.size)
      have h64 := Lib.hid (h57.out.lt)
      have h65 := Lib.hid (h58.out.lt)
      go_wp2_with fail
      refine (toIntS aV cV lV w7 (hAV.out.below hB55) hLV).mono ?_
      rintro e w8 ⟨rfl, h66, h67⟩
      have h68 := Lib.hid (h66); clear h66
      have hB69 : Below w.heap.size w w8 := hB55.trans (h67.mono hB55.size)
      have h70 := Lib.hid (h56.out.trans (h67.mono h56.out.size)); clear h56
      have h71 := Lib.hid (h57.out.below h67 h57.out.lt); clear h57
      have h72 := Lib.hid (h58.out.below h67 h58.out.lt); clear h58
      have h73 := Lib.hid (h59.out.below h67); clear h59
      have h74 := Lib.hid (Nat.le_trans h60.out h67.size); clear h60
      clear h67
      go_wp2_with fail
      refine (eqIntS (some ⟨w3.heap.size, 0, none⟩) (some ⟨w7.heap.size, 0, none⟩) lV.length lV.length lV w8 h71.out.row h68.out.row (Nat.le_trans hLV (by decide))).mono ?_
      rintro e w9 ⟨rfl, h75⟩
      have hB76 : Below w.heap.size w w9 := hB69.trans (h75.mono hB69.size)
      have h77 := Lib.hid (h70.out.trans (h75.mono h70.out.size)); clear h70
      have h78 := Lib.hid (h71.out.below h75 h71.out.lt); clear h71
      have h79 := Lib.hid (h72.out.below h75 h72.out.lt); clear h72
      have h80 := Lib.hid (h68.out.below h75 h68.out.lt); clear h68
      have h81 := Lib.hid (h73.out.below h75); clear h73
      have h82 := Lib.hid (Nat.le_trans h74.out h75.size); clear h74
      clear h75
      clear h80
      have h84 := Lib.hid (hB76.size)
      have h85 := Lib.hid (h77.out.size)
      have h86 := Lib.hid (h78.out.lt)
      have h87 := Lib.hid (h79.out.lt)
      go_wp2_with fail
      refine (toIntS aW cW lW w9 (hAW.out.below hB76) hLW).mono ?_
      rintro e w10 ⟨rfl, h88, h89⟩
      have h90 := Lib.hid (h88); clear h88
      have hB91 : Below w.heap.size w w10 := hB76.trans (h89.mono hB76.size)
      have h92 := Lib.hid (h77.out.trans (h89.mono h77.out.size)); clear h77
      have h93 := Lib.hid (h78.out.below h89 h78.out.lt); clear h78
      have h94 := Lib.hid (h79.out.below h89 h79.out.lt); clear h79
      have h95 := Lib.hid (h81.out.below h89); clear h81
      have h96 := Lib.hid (Nat.le_trans h82.out h89.size); clear h82
      clear h89
      go_wp2_with fail
      refine (eqIntS (some ⟨w4.heap.size, 0, none⟩) (some ⟨w9.heap.size, 0, none⟩) lW.length lW.length lW w10 h94.out.row h90.out.row (Nat.le_trans hLW (by decide))).mono ?_
      rintro e w11 ⟨rfl, h97⟩
      have hB98 : Below w.heap.size w w11 := hB91.trans (h97.mono hB91.size)
      have h99 := Lib.hid (h92.out.trans (h97.mono h92.out.size)); clear h92
      have h100 := Lib.hid (h93.out.below h97 h93.out.lt); clear h93
      have h101 := Lib.hid (h94.out.below h97 h94.out.lt); clear h94
      have h102 := Lib.hid (h90.out.below h97 h90.out.lt); clear h90
      have h103 := Lib.hid (h95.out.below h97); clear h95
      have h104 := Lib.hid (Nat.le_trans h96.out h97.size); clear h96
      clear h97
      clear h102
      go_wp2_with fail
      refine (markIntS_blk w3.heap.size lV.length 1 lV w11 h100.out (by omega) (by omega)).mono ?_
      rintro e w12 ⟨rfl, h105⟩
      have hB106 : Below w.heap.size w w12 := below_of_only hB98 h105 h24.out
      have h107 := Lib.hid (below_of_only h99.out h105 h25.out); clear h99
      have h108 := Lib.hid (h101.out.grown h105 (fun e => by have h1 := Option.some.inj e; have h2 := h33.out; omega)); clear h101
      have h109 := Lib.hid (h103.out.keeps h105 (fun g e => by cases e; exact h48.out)); clear h103
      have h110 := Lib.hid (Nat.le_trans h104.out h105.size); clear h104
      clear h100 h105
      go_wp2_with fail
      refine (markIntS_blk w4.heap.size lW.length (1 + lV.length) lW w12 h108.out (by omega) (by omega)).mono ?_
      rintro e w13 ⟨rfl, h111⟩
      have hB112 : Below w.heap.size w w13 := below_of_only hB106 h111 h31.out
      have h113 := Lib.hid (below_of_only h107.out h111 h32.out); clear h107
      have h114 := Lib.hid (h109.out.keeps h111 (fun g e => by cases e; exact h49.out)); clear h109
      have h115 := Lib.hid (Nat.le_trans h110.out h111.size); clear h110
      clear h108 h111
      go_wp2_with fail
      refine (eqIntS ra41 ra16 rc42 rc17 R0 w13 h114.out.row (h19.out.below h113.out) (Nat.le_trans hN0.out (by decide))).mono ?_
      rintro e w14 ⟨rfl, h116⟩
      have hB117 : Below w.heap.size w w14 := hB112.trans (h116.mono hB112.size)
      have h118 := Lib.hid (h113.out.trans (h116.mono h113.out.size)); clear h113
      have h119 := Lib.hid (h114.out.below h116); clear h114
      have h120 := Lib.hid (Nat.le_trans h115.out h116.size); clear h115
      clear h116
      go_wp2_with fail
      refine (markIntS ra41 rc42 1 _ R0 w14 h119.out (by have := hN0.out; omega) (Nat.le_trans hN0.out (by decide)) h120.out).mono ?_
      rintro e w15 ⟨rfl, h121, h122, h123⟩
      clear h123 h119
      have hB124 : Below w.heap.size w w15 := hB117.trans (h122.mono h46.out)
      have h125 := Lib.hid (h118.out.trans (h122.mono h47.out)); clear h118
      have h126 := Lib.hid (h121); clear h121
      have h127 := Lib.hid (Nat.le_trans h120.out h122.size); clear h120
      clear h122
      go_wp2_with fail
      refine (heldIntS ra41 R0.length rc42 1 w15 h126.out.row (by have := hN0.out; omega) (Nat.le_trans hN0.out (by decide))).mono ?_
      rintro e w16 ⟨rfl, h128⟩
      have hB129 : Below w.heap.size w w16 := hB124.trans (h128.mono hB124.size)
      have h130 := Lib.hid (h125.out.trans (h128.mono h125.out.size)); clear h125
      have h131 := Lib.hid (h126.out.below h128); clear h126
      have h132 := Lib.hid (Nat.le_trans h127.out h128.size); clear h127
      clear h128
      have h134 := Lib.hid (hB129.size)
      have h135 := Lib.hid (h130.out.size)
      go_wp2_with fail
      refine (toIntS aV cV lV w16 (hAV.out.below hB129) hLV).mono ?_
      rintro e w17 ⟨rfl, h136, h137⟩
      have h138 := Lib.hid (h136); clear h136
      have hB139 : Below w.heap.size w w17 := hB129.trans (h137.mono hB129.size)
      have h140 := Lib.hid (h130.out.trans (h137.mono h130.out.size)); clear h130
      have h141 := Lib.hid (h131.out.below h137); clear h131
      have h142 := Lib.hid (Nat.le_trans h132.out h137.size); clear h132
      clear h137
      have h144 := Lib.hid (hB139.size)
      have h145 := Lib.hid (h140.out.size)
      have h146 := Lib.hid (h138.out.lt)
      go_wp2_with fail
      refine (toIntS aW cW lW w17 (hAW.out.below hB139) hLW).mono ?_
      rintro e w18 ⟨rfl, h147, h148⟩
      have h149 := Lib.hid (h147); clear h147
      have hB150 : Below w.heap.size w w18 := hB139.trans (h148.mono hB139.size)
      have h151 := Lib.hid (h140.out.trans (h148.mono h140.out.size)); clear h140
      have h152 := Lib.hid (h138.out.below h148 h138.out.lt); clear h138
      have h153 := Lib.hid (h141.out.below h148); clear h141
      have h154 := Lib.hid (Nat.le_trans h142.out h148.size); clear h142
      clear h148
      go_wp2_with fail
      refine (Hi.out (some ⟨w16.heap.size, 0, none⟩) lV.length (some ⟨w17.heap.size, 0, none⟩) lW.length w18 h152.out.row h149.out.row).mono ?_
      rintro e w19 ⟨ra156, rc157, rfl, _, _, hf158, h155⟩
      have h159 := Lib.hid (hf158); clear hf158
      have h160 := Lib.hid (h155.size)
      have h161 := Lib.hid (hB150.size)
      have h162 := Lib.hid (h151.out.size)
      have hB163 : Below w.heap.size w w19 := hB150.trans (h155.mono hB150.size)
      have h164 := Lib.hid (h151.out.trans (h155.mono h151.out.size)); clear h151
      have h165 := Lib.hid (h152.out.below h155 h152.out.lt); clear h152
      have h166 := Lib.hid (h149.out.below h155 h149.out.lt); clear h149
      have h167 := Lib.hid (h153.out.below h155); clear h153
      have h168 := Lib.hid (Nat.le_trans h154.out h155.size); clear h154
      clear h155
      clear h165
      clear h166
      go_wp2_with fail
      refine (eqIntS ra156 ra16 rc157 rc17 R0 w19 h159.out.row (h19.out.below h164.out) (Nat.le_trans hN0.out (by decide))).mono ?_
      rintro e w20 ⟨rfl, h169⟩
      have hB170 : Below w.heap.size w w20 := hB163.trans (h169.mono hB163.size)
      have h171 := Lib.hid (h164.out.trans (h169.mono h164.out.size)); clear h164
      have h172 := Lib.hid (h167.out.below h169); clear h167
      have h173 := Lib.hid (Nat.le_trans h168.out h169.size); clear h168
      have h174 := Lib.hid (h159.out.below h169); clear h159
      have h175 := Lib.hid (Nat.le_trans h160.out h169.size); clear h160
      clear h169
      go_wp2_with fail
      refine (heldIntS ra41 R0.length rc42 1 w20 h172.out.row (by have := hN0.out; omega) (Nat.le_trans hN0.out (by decide))).mono ?_
      rintro e w21 ⟨rfl, h176⟩
      have hB177 : Below w.heap.size w w21 := hB170.trans (h176.mono hB170.size)
      have h178 := Lib.hid (h171.out.trans (h176.mono h171.out.size)); clear h171
      have h179 := Lib.hid (h172.out.below h176); clear h172
      have h180 := Lib.hid (Nat.le_trans h173.out h176.size); clear h173
      have h181 := Lib.hid (h174.out.below h176); clear h174
      have h182 := Lib.hid (Nat.le_trans h175.out h176.size); clear h175
      clear h176
      go_wp2
      go_ret
      exact ⟨rfl, hB177⟩
    · have hbig : 1048576 < lW.length := by omega
      go_enter Try.func13, Try.ntmps13
      go_wp2
      go_ret
      exact ⟨rfl, Below.refl _ _⟩
  · have hbig : 1048576 < lV.length := by omega
    go_enter Try.func13, Try.ntmps13
    go_wp2
    go_ret
    exact ⟨rfl, Below.refl _ _⟩

set_option maxRecDepth 100000 in
theorem contract (H : Type) (enc : TypeId × Value → H) (W : World) (base : Nat) (args : Array Value) (ds gs : List (DataW H)) (before : List MemPlace)
    (hval : ∀ (j : Nat) t v, Try.f13.params[j]? = some t → args[j]? = some v → Value.okWide Try.prog W .any base t v)
    (hW : DataW.Whole enc Try.prog Try.f13.params.toList Rows.fnExactProductWordSpec.vars false W args.toList ds gs before) :
    Calls Try.prog 13 args W fun e W' => ∃ v, e = .returned v ∧ Rows.fnExactProductWordSpec.post enc Try.prog Try.f13 false true false false W args v W' := by
  have hW' := hW
  obtain ⟨p, q, hA0, hV, rfl, hfz, hnd⟩ := hW
  have hA : DataW.TrodAll enc Try.prog W 0 (fun _ => true) true Try.f13.params.toList args.toList ds p := hA0
  rw [Try.params13] at hA hval
  obtain ⟨v0, vs0, d0, ds0, p0, q0, hargs, rfl, rfl, h0, r0⟩ := trodAll_cons hA
  obtain ⟨v1, vs1, d1, ds1, p1, q1, rfl, rfl, rfl, h1, r1⟩ := trodAll_cons r0
  obtain ⟨rfl, rfl, rfl⟩ := trodAll_nil r1
  obtain rfl : args = #[v0, v1] := by cases args; simp_all
  obtain ⟨rfl, rfl⟩ := trodVars_none hV
  have k0 := h0
  have k1 := h1
  obtain ⟨aV, cV, lV, rfl, wV⟩ := Read.ints_of (hval 0 24 v0 rfl rfl) h0
  obtain ⟨aW, cW, lW, rfl, wW⟩ := Read.ints_of (hval 1 24 v1 rfl rfl) h1
  clear hA0
  simp only [List.append_nil] at hW'
  refine (law aV cV lV aW cW lW W wV wW).mono fun e W' ⟨he, hg⟩ => ?_
  subst he
  exact ⟨_, rfl, post_of_below (pv := []) hW' (fun _ _ _ => trodAll_cons_mk (shut_bool Try.underlying4 _) trodAll_mk0)
    (fun sp hs => trodAll_cons_mk (trod_keeps (t := 24) (by kernel_rfl) (by kernel_rfl) (by kernel_rfl) k0 hg (fun x hx => hW'.lt x (by simp_all)) (fun x hx => hs x (by simp_all))) (trodAll_cons_mk (trod_keeps (t := 24) (by kernel_rfl) (by kernel_rfl) (by kernel_rfl) k1 hg (fun x hx => hW'.lt x (by simp_all)) (fun x hx => hs x (by simp_all))) (trodAll_mk0)))
    (fun _ _ => rfl) (by simp) hg (ok_one (by kernel_rfl) rfl (okWide_bool_mk Try.underlying4 _))⟩

theorem reads (os : Os) {H : Type} (enc : TypeId × Value → H) : ∃ places, DataW.whole enc Try.prog ((World.holding Try.prog os ⟨#[], #[], []⟩).forCall (fun _ _ => 0) ⟨#[], #[.slice none 0 0, .slice none 0 0], []⟩).memory Try.f13.params.toList Rows.fnExactProductWordSpec.vars false (#[.slice none 0 0, .slice none 0 0] : Array Value).toList 8 = some ([.nil, .nil], [], places) :=
  ⟨[], by kernel_rfl⟩

set_option maxRecDepth 100000 in
theorem lifted (os : Os) (started : os.Started) (H : Type) (enc : TypeId × Value → H) (F : Stop.Interp) :
    ReturnsInHanded {} Try.checked os 13 .any ((OpenSpec.ofChange Rows.fnExactProductWordSpec).preRow enc Try.prog Try.f13 Rows.fnExactProductWordRow.domain false Rows.fnExactProductWordRow.laid) (((OpenSpec.ofChange Rows.fnExactProductWordSpec).at F).post enc Try.prog Try.f13 false true false false) := by
  obtain ⟨places, hx⟩ := reads os enc
  refine returnsInHanded_of_row (C := Try.checked) (s := OpenSpec.ofChange Rows.fnExactProductWordSpec) Low.own started (by kernel_rfl) Try.func13
    (witness_row_at (enc := enc) (C := Try.checked) false (World.holding Try.prog os ⟨#[], #[], []⟩) #[.slice none 0 0, .slice none 0 0] rfl (by kernel_rfl) (by kernel_rfl) (by kernel_rfl)
      (OpenSpec.preRow_of_cond 8 hx (by kernel_rfl) (fun k hk => by cases hk) (by kernel_rfl) (laidMet_nil _ _))) ?_
  intro W base args ds gs before hval hW _ _ _ hL hShaped _
  exact contract H enc W base args ds gs before hval hW 

theorem said : Rows.FnExactProductWordSaid :=
  OpenClaim.holds_of_cond 13 Try.f13 rfl rfl rfl rfl rfl rfl rfl ⟨rfl, rfl, rfl, rfl, rfl⟩ rfl rfl rfl rfl rfl (by kernel_rfl) Try.func13 (by kernel_rfl)
    (of_decide_eq_true (by kernel_rfl)) (by unfold Func.isWrapper; first | (rw [if_pos (by decide +kernel)]; kernel_rfl) | (rw [if_neg (by decide +kernel)]; exact ⟨rfl, rfl⟩))
    (fun os started H enc _ F => by rw [OpenClaim.pre_eq_preRow]; exact lifted os started H enc F)
end Go.Proofs.Ytapclpfhpmmbjaa.fnExactProductWord
