/-
  For every draw: integers are read back from their texts just where the limits let them, and a text that is read as a number is that number's text.
-/
import Derived.Test.YtdjkckingelhjaaDoorCards
import Derived.Test.YtdjkckingelhjaaDoorTie
import Derived.Test.YtdjkckingelhjaaDoorBase
import Derived.Test.YtdjkckingelhjaaDoorLow
import Derived.Test.YtdjkckingelhjaaDoorDoorLow
import Derived.Test.YtdjkckingelhjaaDoorParse
import Derived.Test.YtdjkckingelhjaaDoorDrawNum
import Derived.Test.YtdjkckingelhjaaDoorReadBytes
import Derived.Deep.DeepWitnessRowRef
import Derived.OpenShut
import Derived.Deep.DeepHandedRow
import Derived.LaidMore
namespace Go.Proofs.YtdjkckingelhjaaDoor.fnNumbers
open Go.ChangeShapes Go.WideShapes Go.ChangeAt Go.RowKit Go.Sort
open Go.ChangeMaps (open_string)

/-- What is told of the draw's first number. -/
theorem sizes {n : Int} {S : ByteArray} (h : S = ⟨(Lib.itoa n).toArray⟩) : (S.size : Int) = (Lib.nDigits n.natAbs : Int) + if n < 0 then 1 else 0 := by
  have := Num.itoa_len n
  subst h
  show (((Lib.itoa n).toArray.size : Nat) : Int) = _
  rw [List.size_toArray, this]
  split <;> simp

/-- The second part of the law: of the drawn text. -/
def Second (w : World) (e : Ending) (w' : World) : Prop := e = .returned (.bool true) ∧ Below w.heap.size w w'

set_option maxRecDepth 100000 in
set_option maxHeartbeats 2000000 in
theorem law (a : Option Addr) (c : Nat) (l : List Int) (w : World) (hh : RowAt w a (byteCells l) ∧ l.length ≤ maxLen ∧ ∀ x ∈ l, 0 ≤ x ∧ x ≤ 255) (hL : Laid w) :
    Calls Tryd.prog 3 #[.slice a l.length c] w (Second w) := by
  obtain ⟨ha, hl, hb⟩ := hh
  unfold maxLen at hl
  have HL := Lib.hid hL; have Hb := Lib.hid hb; have Ha := Lib.hid ha
  clear hL hb ha
  by_cases hbig : 1048576 < l.length
  · have hd : decide (1048576 < l.length) = true := by simpa using hbig
    go_enter Tryd.func3, Tryd.ntmps3
    go_wp2_with fail
    refine (big a l.length c w (by omega)).mono ?_
    rintro e w' ⟨rfl, rfl⟩
    go_wp2
    go_ret
    exact ⟨rfl, Below.refl _ _⟩
  · have hd : decide (1048576 < l.length) = false := by simpa using hbig
    have hsz : l.length ≤ 1048576 := by omega
    go_enter Tryd.func3, Tryd.ntmps3
    go_wp2_with fail
    refine (big a l.length c w (by omega)).mono ?_
    rintro e w' ⟨rfl, rfl⟩
    go_wp2_with fail
    refine (drawFormatInt a c l w Ha.out Hb.out hsz).mono ?_
    rintro e w1 ⟨⟨n, rfl, hn0, hn1⟩, hb1⟩
    go_wp2_with fail
    refine (impl_FormatInt n hn0 hn1 w1 (HL.out.keeps hb1).tab).mono ?_
    rintro e w2 ⟨rfl, hb2⟩
    have hb2' : Below w.heap.size w w2 := hb1.trans (hb2.mono hb1.size)
    have hpi := impl_ParseInt ⟨(Lib.itoa n).toArray⟩ w2 (by have := Fmt.itoa_size hn0 hn1; omega) (HL.out.keeps hb2')
    have hsf := fun w => spec_FormatInt n w hn0 hn1
    have hs := sizes (n := n) (S := ⟨(Lib.itoa n).toArray⟩) rfl
    have hrd : Num.rd 12 (⟨(Lib.itoa n).toArray⟩ : ByteArray).data.toList = Num.rd 12 (Lib.itoa n) := rfl
    rw [hrd] at hpi
    generalize hS : (⟨(Lib.itoa n).toArray⟩ : ByteArray) = S at hpi hsf hs ⊢
    have Hpi := Lib.hid hpi; have Hsf := Lib.hid hsf; have HS := Lib.hid hS
    clear hpi hsf hS hrd
    go_wp2_with fail
    refine Hpi.out.mono ?_
    rintro e w3 ⟨rfl, hb3⟩
    have hb3' : Below w.heap.size w w3 := hb2'.trans (hb3.mono hb2'.size)
    have hdig := Num.digits_iff 11 n.natAbs
    by_cases hfar : n.natAbs < 10 ^ 12
    · have hrd := Num.rd_itoa 11 n hfar
      have hnd : Lib.nDigits n.natAbs ≤ 12 := hdig.2 hfar
      rw [hrd]
      clear hrd hdig
      by_cases hneg : n < 0
      · rw [if_pos hneg] at hs
        have h13 : S.size ≤ 13 := by omega
        by_cases h12 : S.size ≤ 12
        · clear hs hnd hfar
          go_wp2_with fail
          refine (Hsf.out _).mono ?_
          rintro e w4 ⟨rfl, hb4⟩
          have hb4' : Below w.heap.size w w4 := hb3'.trans (hb4.mono hb3'.size)
          go_wp2_with fail
          refine (drawParseNumber a c l w4 (Ha.out.below hb4') Hb.out hsz).mono ?_
          rintro e w5 ⟨⟨t, rfl, ht⟩, hb5⟩
          have hb5' : Below w.heap.size w w5 := hb4'.trans (hb5.mono hb4'.size)
          have hm : t.size ≤ 1048576 := by omega
          have hip := impl_ParseNumber t w5 hm (HL.out.keeps hb5')
          have hsp := fun w => spec_ParseNumber t w hm
          have hrt := Num.rdN_true (l := t.data.toList)
          generalize Num.rdN t.data.toList = r at hip hsp hrt
          have Hip := Lib.hid hip; have Hsp := Lib.hid hsp; have Hrt := Lib.hid hrt
          clear hip hsp hrt
          obtain ⟨y, b⟩ := r
          go_wp2_with fail
          refine Hip.out.mono ?_
          rintro e w6 ⟨rfl, hb6⟩
          have hb6' : Below w.heap.size w w6 := hb5'.trans (hb6.mono hb5'.size)
          go_wp2_with fail
          refine (Hsp.out _).mono ?_
          rintro e w7 ⟨rfl, hb7⟩
          have hb7' : Below w.heap.size w w7 := hb6'.trans (hb7.mono hb6'.size)
          cases b with
          | true =>
            obtain ⟨hy, hy0, hy1⟩ := Hrt.out rfl
            have Hy := Lib.hid hy; clear hy
            have hyt : (⟨(Lib.itoa y).toArray⟩ : ByteArray) = t := ByteArray.ext (Array.toList_inj.1 Hy.out)
            have hfy := impl_FormatInt y (by omega) (by omega) w7 (HL.out.keeps hb7').tab
            rw [hyt] at hfy
            have Hfy := Lib.hid hfy; clear hfy hyt
            go_wp2_with fail
            refine Hfy.out.mono ?_
            rintro e w8 ⟨rfl, hb8⟩
            go_wp2
            go_ret
            exact ⟨rfl, hb7'.trans (hb8.mono hb7'.size)⟩
          | false =>
            go_wp2
            go_ret
            exact ⟨rfl, hb7'⟩
        · have h12' : 12 < S.size := by omega
          have hd12 : decide ((S.size : Int) ≤ 12) = false := by simp; omega
          have hd13 : decide ((S.size : Int) ≤ 13) = true := by simp; omega
          have hdn : decide (n < 0) = true := by simpa using hneg
          have hi13 : (S.size : Int) ≤ 13 := by omega
          clear hs hnd hfar h12
          go_wp2_with fail
          refine (Hsf.out _).mono ?_
          rintro e w4 ⟨rfl, hb4⟩
          have hb4' : Below w.heap.size w w4 := hb3'.trans (hb4.mono hb3'.size)
          go_wp2_with fail
          refine (drawParseNumber a c l w4 (Ha.out.below hb4') Hb.out hsz).mono ?_
          rintro e w5 ⟨⟨t, rfl, ht⟩, hb5⟩
          have hb5' : Below w.heap.size w w5 := hb4'.trans (hb5.mono hb4'.size)
          have hm : t.size ≤ 1048576 := by omega
          have hip := impl_ParseNumber t w5 hm (HL.out.keeps hb5')
          have hsp := fun w => spec_ParseNumber t w hm
          have hrt := Num.rdN_true (l := t.data.toList)
          generalize Num.rdN t.data.toList = r at hip hsp hrt
          have Hip := Lib.hid hip; have Hsp := Lib.hid hsp; have Hrt := Lib.hid hrt
          clear hip hsp hrt
          obtain ⟨y, b⟩ := r
          go_wp2_with fail
          refine Hip.out.mono ?_
          rintro e w6 ⟨rfl, hb6⟩
          have hb6' : Below w.heap.size w w6 := hb5'.trans (hb6.mono hb5'.size)
          go_wp2_with fail
          refine (Hsp.out _).mono ?_
          rintro e w7 ⟨rfl, hb7⟩
          have hb7' : Below w.heap.size w w7 := hb6'.trans (hb7.mono hb6'.size)
          cases b with
          | true =>
            obtain ⟨hy, hy0, hy1⟩ := Hrt.out rfl
            have Hy := Lib.hid hy; clear hy
            have hyt : (⟨(Lib.itoa y).toArray⟩ : ByteArray) = t := ByteArray.ext (Array.toList_inj.1 Hy.out)
            have hfy := impl_FormatInt y (by omega) (by omega) w7 (HL.out.keeps hb7').tab
            rw [hyt] at hfy
            have Hfy := Lib.hid hfy; clear hfy hyt
            go_wp2_with fail
            refine Hfy.out.mono ?_
            rintro e w8 ⟨rfl, hb8⟩
            go_wp2
            go_ret
            exact ⟨rfl, hb7'.trans (hb8.mono hb7'.size)⟩
          | false =>
            go_wp2
            go_ret
            exact ⟨rfl, hb7'⟩
      · rw [if_neg hneg] at hs
        have h12 : S.size ≤ 12 := by omega
        clear hs hnd hfar
        go_wp2_with fail
        refine (Hsf.out _).mono ?_
        rintro e w4 ⟨rfl, hb4⟩
        have hb4' : Below w.heap.size w w4 := hb3'.trans (hb4.mono hb3'.size)
        go_wp2_with fail
        refine (drawParseNumber a c l w4 (Ha.out.below hb4') Hb.out hsz).mono ?_
        rintro e w5 ⟨⟨t, rfl, ht⟩, hb5⟩
        have hb5' : Below w.heap.size w w5 := hb4'.trans (hb5.mono hb4'.size)
        have hm : t.size ≤ 1048576 := by omega
        have hip := impl_ParseNumber t w5 hm (HL.out.keeps hb5')
        have hsp := fun w => spec_ParseNumber t w hm
        have hrt := Num.rdN_true (l := t.data.toList)
        generalize Num.rdN t.data.toList = r at hip hsp hrt
        have Hip := Lib.hid hip; have Hsp := Lib.hid hsp; have Hrt := Lib.hid hrt
        clear hip hsp hrt
        obtain ⟨y, b⟩ := r
        go_wp2_with fail
        refine Hip.out.mono ?_
        rintro e w6 ⟨rfl, hb6⟩
        have hb6' : Below w.heap.size w w6 := hb5'.trans (hb6.mono hb5'.size)
        go_wp2_with fail
        refine (Hsp.out _).mono ?_
        rintro e w7 ⟨rfl, hb7⟩
        have hb7' : Below w.heap.size w w7 := hb6'.trans (hb7.mono hb6'.size)
        cases b with
        | true =>
          obtain ⟨hy, hy0, hy1⟩ := Hrt.out rfl
          have Hy := Lib.hid hy; clear hy
          have hyt : (⟨(Lib.itoa y).toArray⟩ : ByteArray) = t := ByteArray.ext (Array.toList_inj.1 Hy.out)
          have hfy := impl_FormatInt y (by omega) (by omega) w7 (HL.out.keeps hb7').tab
          rw [hyt] at hfy
          have Hfy := Lib.hid hfy; clear hfy hyt
          go_wp2_with fail
          refine Hfy.out.mono ?_
          rintro e w8 ⟨rfl, hb8⟩
          go_wp2
          go_ret
          exact ⟨rfl, hb7'.trans (hb8.mono hb7'.size)⟩
        | false =>
          go_wp2
          go_ret
          exact ⟨rfl, hb7'⟩
    · have hrd := Num.rd_far hfar
      have hnd : ¬ Lib.nDigits n.natAbs ≤ 12 := fun h => hfar (hdig.1 h)
      rw [hrd]
      clear hrd hdig
      by_cases hneg : n < 0
      · rw [if_pos hneg] at hs
        have h13 : 13 < S.size := by omega
        clear hs hnd hfar
        go_wp2_with fail
        refine (Hsf.out _).mono ?_
        rintro e w4 ⟨rfl, hb4⟩
        have hb4' : Below w.heap.size w w4 := hb3'.trans (hb4.mono hb3'.size)
        go_wp2_with fail
        refine (drawParseNumber a c l w4 (Ha.out.below hb4') Hb.out hsz).mono ?_
        rintro e w5 ⟨⟨t, rfl, ht⟩, hb5⟩
        have hb5' : Below w.heap.size w w5 := hb4'.trans (hb5.mono hb4'.size)
        have hm : t.size ≤ 1048576 := by omega
        have hip := impl_ParseNumber t w5 hm (HL.out.keeps hb5')
        have hsp := fun w => spec_ParseNumber t w hm
        have hrt := Num.rdN_true (l := t.data.toList)
        generalize Num.rdN t.data.toList = r at hip hsp hrt
        have Hip := Lib.hid hip; have Hsp := Lib.hid hsp; have Hrt := Lib.hid hrt
        clear hip hsp hrt
        obtain ⟨y, b⟩ := r
        go_wp2_with fail
        refine Hip.out.mono ?_
        rintro e w6 ⟨rfl, hb6⟩
        have hb6' : Below w.heap.size w w6 := hb5'.trans (hb6.mono hb5'.size)
        go_wp2_with fail
        refine (Hsp.out _).mono ?_
        rintro e w7 ⟨rfl, hb7⟩
        have hb7' : Below w.heap.size w w7 := hb6'.trans (hb7.mono hb6'.size)
        cases b with
        | true =>
          obtain ⟨hy, hy0, hy1⟩ := Hrt.out rfl
          have Hy := Lib.hid hy; clear hy
          have hyt : (⟨(Lib.itoa y).toArray⟩ : ByteArray) = t := ByteArray.ext (Array.toList_inj.1 Hy.out)
          have hfy := impl_FormatInt y (by omega) (by omega) w7 (HL.out.keeps hb7').tab
          rw [hyt] at hfy
          have Hfy := Lib.hid hfy; clear hfy hyt
          go_wp2_with fail
          refine Hfy.out.mono ?_
          rintro e w8 ⟨rfl, hb8⟩
          go_wp2
          go_ret
          exact ⟨rfl, hb7'.trans (hb8.mono hb7'.size)⟩
        | false =>
          go_wp2
          go_ret
          exact ⟨rfl, hb7'⟩
      · rw [if_neg hneg] at hs
        have h12 : 12 < S.size := by omega
        clear hs hnd hfar
        go_wp2_with fail
        refine (Hsf.out _).mono ?_
        rintro e w4 ⟨rfl, hb4⟩
        have hb4' : Below w.heap.size w w4 := hb3'.trans (hb4.mono hb3'.size)
        go_wp2_with fail
        refine (drawParseNumber a c l w4 (Ha.out.below hb4') Hb.out hsz).mono ?_
        rintro e w5 ⟨⟨t, rfl, ht⟩, hb5⟩
        have hb5' : Below w.heap.size w w5 := hb4'.trans (hb5.mono hb4'.size)
        have hm : t.size ≤ 1048576 := by omega
        have hip := impl_ParseNumber t w5 hm (HL.out.keeps hb5')
        have hsp := fun w => spec_ParseNumber t w hm
        have hrt := Num.rdN_true (l := t.data.toList)
        generalize Num.rdN t.data.toList = r at hip hsp hrt
        have Hip := Lib.hid hip; have Hsp := Lib.hid hsp; have Hrt := Lib.hid hrt
        clear hip hsp hrt
        obtain ⟨y, b⟩ := r
        go_wp2_with fail
        refine Hip.out.mono ?_
        rintro e w6 ⟨rfl, hb6⟩
        have hb6' : Below w.heap.size w w6 := hb5'.trans (hb6.mono hb5'.size)
        go_wp2_with fail
        refine (Hsp.out _).mono ?_
        rintro e w7 ⟨rfl, hb7⟩
        have hb7' : Below w.heap.size w w7 := hb6'.trans (hb7.mono hb6'.size)
        cases b with
        | true =>
          obtain ⟨hy, hy0, hy1⟩ := Hrt.out rfl
          have Hy := Lib.hid hy; clear hy
          have hyt : (⟨(Lib.itoa y).toArray⟩ : ByteArray) = t := ByteArray.ext (Array.toList_inj.1 Hy.out)
          have hfy := impl_FormatInt y (by omega) (by omega) w7 (HL.out.keeps hb7').tab
          rw [hyt] at hfy
          have Hfy := Lib.hid hfy; clear hfy hyt
          go_wp2_with fail
          refine Hfy.out.mono ?_
          rintro e w8 ⟨rfl, hb8⟩
          go_wp2
          go_ret
          exact ⟨rfl, hb7'.trans (hb8.mono hb7'.size)⟩
        | false =>
          go_wp2
          go_ret
          exact ⟨rfl, hb7'⟩

set_option maxRecDepth 100000 in
theorem contract (H : Type) (enc : TypeId × Value → H) (W : World) (base : Nat) (args : Array Value) (ds gs : List (DataW H)) (before : List MemPlace)
    (hval : ∀ (j : Nat) t v, Tryd.f3.params[j]? = some t → args[j]? = some v → Value.okWide Tryd.prog W .any base t v)
    (hW : DataW.Whole enc Tryd.prog Tryd.f3.params.toList Rows.fnNumbersSpec.vars false W args.toList ds gs before) (hL : laidMetH Tryd.prog Rows.fnNumbersRow.laid W) :
    Calls Tryd.prog 3 args W fun e W' => ∃ v, e = .returned v ∧ Rows.fnNumbersSpec.post enc Tryd.prog Tryd.f3 false true false false W args v W' := by
  have hW' := hW
  obtain ⟨p, q, hA0, hV, rfl, hfz, hnd⟩ := hW
  have hA : DataW.TrodAll enc Tryd.prog W 0 (fun _ => true) true Tryd.f3.params.toList args.toList ds p := hA0
  rw [Tryd.params3] at hA hval
  obtain ⟨v0, vs0, d0, ds0, p0, q0, hargs, rfl, rfl, h0, r0⟩ := trodAll_cons hA
  obtain ⟨rfl, rfl, rfl⟩ := trodAll_nil r0
  obtain rfl : args = #[v0] := by cases args; simp_all
  obtain ⟨rfl, rfl⟩ := trodVars_none hV
  have k0 := h0
  obtain ⟨acode, ccode, lcode, rfl, wcode⟩ := Read.bytes_of (hval 0 22 v0 rfl rfl) h0
  clear hA0
  simp only [List.append_nil] at hW'
  refine (law acode ccode lcode W wcode (laid_of hL (by rfl) (by rfl) (by rfl))).mono fun e W' ⟨he, hg⟩ => ?_
  subst he
  exact ⟨_, rfl, post_of_below (pv := []) hW' (fun _ _ _ => trodAll_cons_mk (shut_bool Tryd.underlying4 _) trodAll_mk0)
    (fun sp hs => trodAll_cons_mk (trod_keeps (t := 22) (by kernel_rfl) (by kernel_rfl) (by kernel_rfl) k0 hg (fun x hx => hW'.lt x (by simp_all)) (fun x hx => hs x (by simp_all))) (trodAll_mk0))
    (fun _ _ => rfl) (by simp) hg (ok_one (by kernel_rfl) rfl (okWide_bool_mk Tryd.underlying4 _))⟩

theorem laid_met (os : Os) : laidMetH Tryd.prog Rows.fnNumbersRow.laid ((World.doorLaid Tryd.prog 72 os).forCall (fun _ _ => 0) ⟨#[], #[.slice none 0 0], []⟩).memory :=
  Low.met os #[.slice none 0 0] Rows.fnNumbersRow.laid (Rows.fnNumbersRow.laid.map (·.1)) (by rfl)
theorem reads (os : Os) {H : Type} (enc : TypeId × Value → H) : ∃ places, DataW.whole enc Tryd.prog ((World.doorLaid Tryd.prog 72 os).forCall (fun _ _ => 0) ⟨#[], #[.slice none 0 0], []⟩).memory Tryd.f3.params.toList Rows.fnNumbersSpec.vars false (#[.slice none 0 0] : Array Value).toList 8 = some ([.nil], [], places) :=
  ⟨[], by kernel_rfl⟩

set_option maxRecDepth 100000 in
theorem lifted (os : Os) (started : os.Started) (H : Type) (enc : TypeId × Value → H) (F : Stop.Interp) :
    ReturnsInHanded {} Tryd.checked os 3 .any ((OpenSpec.ofChange Rows.fnNumbersSpec).preRow enc Tryd.prog Tryd.f3 Rows.fnNumbersRow.domain false Rows.fnNumbersRow.laid) (((OpenSpec.ofChange Rows.fnNumbersSpec).at F).post enc Tryd.prog Tryd.f3 false true false false) := by
  obtain ⟨places, hx⟩ := reads os enc
  refine returnsInHanded_of_row (C := Tryd.checked) (s := OpenSpec.ofChange Rows.fnNumbersSpec) Low.own started (by kernel_rfl) Tryd.func3
    (witness_row_atRef (enc := enc) (C := Tryd.checked) false (World.doorLaid Tryd.prog 72 os) #[.slice none 0 0] (by unfold World.doorLaid; rfl) (Low.shapeB os #[.slice none 0 0]) (Low.shapeR os #[.slice none 0 0]) (by kernel_rfl)
      (OpenSpec.preRow_of_cond 8 hx (by kernel_rfl) (fun k hk => by cases hk) (by kernel_rfl) (laid_met os))) ?_
  intro W base args ds gs before hval hW _ _ _ hL hShaped _
  exact contract H enc W base args ds gs before hval hW hL

theorem said : Rows.FnNumbersSaid :=
  OpenClaim.holds_of_cond 3 Tryd.f3 rfl rfl rfl rfl rfl rfl rfl ⟨rfl, rfl, rfl, rfl, rfl⟩ rfl rfl rfl rfl rfl (by kernel_rfl) Tryd.func3 (by kernel_rfl)
    (of_decide_eq_true (by kernel_rfl)) (by unfold Func.isWrapper; first | (rw [if_pos (by decide +kernel)]; kernel_rfl) | (rw [if_neg (by decide +kernel)]; exact ⟨rfl, rfl⟩))
    (fun os started H enc _ F => by rw [OpenClaim.pre_eq_preRow]; exact lifted os started H enc F)

theorem looks (f : FuncId) (fn : Func) (hf : Tryd.pinned.checked.prog.funcNamed "loop.example/g03105/laws.FnNumbers" = some f) (hfn : Tryd.pinned.checked.prog.funcs[f]? = some fn) :
    true = Tryd.pinned.checked.prog.looks [] ∧ ∀ (j : Nat) t, fn.params[j]? = some t → Tryd.pinned.checked.prog.wantsStandIn t = false := by
  obtain rfl : f = 3 := Option.some.inj ((show Tryd.prog.funcNamed "loop.example/g03105/laws.FnNumbers" = some 3 by kernel_rfl).symm.trans hf) |>.symm
  obtain rfl : fn = Tryd.f3 := (Option.some.inj (Tryd.func3.symm.trans hfn)).symm
  refine ⟨by kernel_rfl, fun j t ht => ?_⟩
  rw [Tryd.params3] at ht
  have hm : t ∈ [22] := by simpa using Array.mem_of_getElem? ht
  have hall : ([22].all fun u => !Tryd.prog.wantsStandIn u) = true := by kernel_rfl
  exact (show Tryd.prog.wantsStandIn t = false by simpa using List.all_eq_true.1 hall t hm)

theorem card : Rows.FnNumbersCardSaid :=
  Claim7.holds_tied_plain_at .later [] _ _ _ _ said (fun _ h => by cases h) (by kernel_rfl) (fun _ h => by cases h) fnNumbers_row_tie rfl ⟨rfl, rfl⟩ (by kernel_rfl) rfl looks (by kernel_rfl)
end Go.Proofs.YtdjkckingelhjaaDoor.fnNumbers
