/-
  For every draw: joining the parts of a text at the separator restores it, and no part holds the separator.
-/
import Derived.Test.YtdjkckingelhjaaDoorCards
import Derived.Test.YtdjkckingelhjaaDoorTie
import Derived.Test.YtdjkckingelhjaaDoorBase
import Derived.Test.YtdjkckingelhjaaDoorLow
import Derived.Test.YtdjkckingelhjaaDoorSlice
import Derived.Test.YtdjkckingelhjaaDoorStrs
import Derived.Test.YtdjkckingelhjaaDoorMarks
import Derived.Test.YtdjkckingelhjaaDoorSplit
import Derived.Test.YtdjkckingelhjaaDoorSplitImpl
import Derived.Test.YtdjkckingelhjaaDoorJoin
import Derived.Test.YtdjkckingelhjaaDoorJoinImpl
import Derived.Test.YtdjkckingelhjaaDoorDraw
import Derived.Test.YtdjkckingelhjaaDoorDrawSplit
import Derived.Test.YtdjkckingelhjaaDoorReadBytes
import Derived.Deep.DeepWitnessRowRef
import Derived.Lay
import Derived.OpenShut
import Derived.Deep.DeepHandedRow
import Derived.LaidMore
namespace Go.Proofs.YtdjkckingelhjaaDoor.fnSplit
open Go.ChangeShapes Go.WideShapes Go.ChangeAt Go.RowKit Go.Sort
open Go.ChangeMaps (open_string)

def Done (w : World) (e : Ending) (w' : World) : Prop := e = .returned (.bool true) ∧ Below w.heap.size w w'

set_option maxRecDepth 100000 in
set_option maxHeartbeats 2000000 in
theorem law (a : Option Addr) (c : Nat) (l : List Int) (w : World) (hh : RowAt w a (byteCells l) ∧ l.length ≤ maxLen ∧ ∀ x ∈ l, 0 ≤ x ∧ x ≤ 255) (hsh : w.ShapedOpen Tryd.prog) :
    Calls Tryd.prog 4 #[.slice a l.length c] w (Done w) := by
  obtain ⟨ha, hl, hb⟩ := hh
  unfold maxLen at hl
  have Hsh := Lib.hid hsh; have Hb := Lib.hid hb; have Ha := Lib.hid ha
  clear hsh hb ha
  by_cases hbig : 1048576 < l.length
  · have hd : decide (1048576 < l.length) = true := by simpa using hbig
    go_enter Tryd.func4, Tryd.ntmps4
    go_wp2_with fail
    refine (big a l.length c w (by omega)).mono ?_
    rintro e w' ⟨rfl, rfl⟩
    go_wp2
    go_ret
    exact ⟨rfl, Below.refl _ _⟩
  · have hd : decide (1048576 < l.length) = false := by simpa using hbig
    have hsz : l.length ≤ 1048576 := by omega
    go_enter Tryd.func4, Tryd.ntmps4
    go_wp2_with fail
    refine (big a l.length c w (by omega)).mono ?_
    rintro e w' ⟨rfl, rfl⟩
    go_wp2_with fail
    refine (drawSplitByte a c l w Ha.out Hb.out hsz).mono ?_
    rintro e w1 ⟨⟨s, x, rfl, hs⟩, hb1⟩
    have hx8 := x.toNat_lt
    have hcv := fun W => Fmt.one_byte W (x.toNat : Int) (by omega) (by omega)
    have hone : UInt8.ofNat ((x.toNat : Int)).toNat = x := by simp
    rw [hone] at hcv
    clear hone
    have him := fun w h => impl_SplitByte s x w h (by omega)
    have hsc := fun w => spec_SplitByte s x w (by omega)
    have hlen := Split.pieces_length x s
    have hjo := Split.pieces_join x s
    have hon := Split.pieces_one x s
    have hsm := Split.pieces_small x s
    have hn : (strCells (Split.pieces x s)).length = (Split.pieces x s).length := by simp [strCells]
    rw [hn] at him
    generalize Split.pieces x s = ps at him hsc hlen hjo hon hsm hn
    have htot : ps.length + total ps ≤ 1048576 := by
      have h1 := Join.total_le ps 100 (fun q hq => by have := hsm q hq; omega)
      have h2 : ps.length * 100 ≤ 101 * 100 := Nat.mul_le_mul (by omega) (Nat.le_refl _)
      omega
    have Him := Lib.hid him; have Hsc := Lib.hid hsc; have Hjo := Lib.hid hjo; have Hon := Lib.hid hon; have Hsm := Lib.hid hsm; have Hn := Lib.hid hn
    clear him hsc hjo hon hsm hn
    go_wp2_with fail
    refine (Him.out w1 (shaped_below Hsh.out hb1)).mono ?_
    rintro e w2 ⟨⟨g, rfl, hg, hk2⟩, hb2⟩
    have hb2' : Below w.heap.size w w2 := hb1.trans (hb2.mono hb1.size)
    have Hk2 := Lib.hid hk2; clear hk2
    have hb3 : Below w2.heap.size w2 (w2.alloc (.cells #[.int .u8 x.toNat] 5)) := (Below.refl _ _).alloc (Nat.le_refl _) _
    have hj := impl_Join g 0 ps.length ps ⟨#[x]⟩ (w2.alloc (.cells #[.int .u8 x.toNat] 5)) (Hk2.out.row.below hb3) htot (by show (1 : Nat) ≤ 1048576; omega) (Nat.le_refl _)
    have hjs : (⟨(Lib.join (Join.texts ps) (⟨#[x]⟩ : ByteArray).data.toList).toArray⟩ : ByteArray) = s := ByteArray.ext (Array.toList_inj.1 Hjo.out)
    rw [hjs] at hj
    have Hj := Lib.hid hj; clear hj hjs
    go_wp2_with fail
    refine Hj.out.mono ?_
    rintro e w4 ⟨rfl, hb4⟩
    have hb4s : Below w2.heap.size w2 w4 := hb3.trans (hb4.mono (by simp))
    have hb4' : Below w.heap.size w w4 := hb2'.trans (hb4s.mono hb2'.size)
    go_wp2_with fail
    refine (Hsc.out w4).mono ?_
    rintro e w5 ⟨⟨v, rfl, hown⟩, hb5⟩
    obtain ⟨av, cv, rfl, -⟩ := own_row hown Hn.out
    clear hown
    have hb5s : Below w2.heap.size w2 w5 := hb4s.trans (hb5.mono hb4s.size)
    have hb5' : Below w.heap.size w w5 := hb2'.trans (hb5s.mono hb2'.size)
    have hrow5 : RowAt w5 (some ⟨g, 0, none⟩) (strCells ps) := Hk2.out.row.below hb5s
    clear hb3 hb4 hb4s hb4' hb5 hb5s
    go_wp2
    go_loopw [2, 6] (fun rv iv wr => rv = .bool false ∧ ∃ i : Nat, i ≤ ps.length ∧ iv = .int .i64 i ∧ Below w5.heap.size w5 wr) (fun _ iv _ => ps.length - (intOf iv).toNat)
    case atStart => exact ⟨rfl, 0, by omega, rfl, Below.refl _ _⟩
    case round =>
      obtain ⟨rfl, i, hi, rfl, hb⟩ := hrel
      by_cases hlt : i < ps.length
      · have hrow := hrow5.below hb
        obtain ⟨b, o, e, hbw, hcell⟩ := strCells_at hrow hlt
        obtain ⟨rfl, rfl⟩ : g = b ∧ 0 = o := by injection e with e; injection e with e1 e2; exact ⟨e1, e2⟩
        rw [Nat.zero_add] at hcell
        have hq1 := Hon.out ps[i] (List.getElem_mem hlt)
        have hq2 := Hsm.out ps[i] (List.getElem_mem hlt)
        generalize ps[i] = q at hcell hq1 hq2
        have hbr : Below w.heap.size w wr := hb5'.trans (hb.mono hb5'.size)
        have hq := impl_SplitByte q x wr (shaped_below Hsh.out hbr) (by omega)
        have hqn : (strCells (Split.pieces x q)).length = 1 := by simp [strCells, hq1]
        rw [hqn] at hq
        have Hq := Lib.hid hq; clear hq hqn hq1 e
        go_wp2_with fail
        refine Hq.out.mono ?_
        rintro e w6 ⟨⟨g6, rfl, -, -⟩, hb6⟩
        go_wp2
        go_roundw
        case rel => exact ⟨rfl, i + 1, by omega, by go_num, hb.trans (hb6.mono hb.size)⟩
        case measure => simp [intOf]; omega
      · obtain rfl : i = ps.length := by omega
        go_wp2
        go_ret
        exact ⟨rfl, hb5'.trans (hb.mono hb5'.size)⟩

set_option maxRecDepth 100000 in
theorem contract (H : Type) (enc : TypeId × Value → H) (W : World) (base : Nat) (args : Array Value) (ds gs : List (DataW H)) (before : List MemPlace)
    (hval : ∀ (j : Nat) t v, Tryd.f4.params[j]? = some t → args[j]? = some v → Value.okWide Tryd.prog W .any base t v)
    (hW : DataW.Whole enc Tryd.prog Tryd.f4.params.toList Rows.fnSplitSpec.vars false W args.toList ds gs before) (hL : laidMetH Tryd.prog Rows.fnSplitRow.laid W) (hShaped : W.ShapedOpen Tryd.prog) :
    Calls Tryd.prog 4 args W fun e W' => ∃ v, e = .returned v ∧ Rows.fnSplitSpec.post enc Tryd.prog Tryd.f4 false true false false W args v W' := by
  have hW' := hW
  obtain ⟨p, q, hA0, hV, rfl, hfz, hnd⟩ := hW
  have hA : DataW.TrodAll enc Tryd.prog W 0 (fun _ => true) true Tryd.f4.params.toList args.toList ds p := hA0
  rw [Tryd.params4] at hA hval
  obtain ⟨v0, vs0, d0, ds0, p0, q0, hargs, rfl, rfl, h0, r0⟩ := trodAll_cons hA
  obtain ⟨rfl, rfl, rfl⟩ := trodAll_nil r0
  obtain rfl : args = #[v0] := by cases args; simp_all
  obtain ⟨rfl, rfl⟩ := trodVars_none hV
  have k0 := h0
  obtain ⟨acode, ccode, lcode, rfl, wcode⟩ := Read.bytes_of (hval 0 22 v0 rfl rfl) h0
  clear hA0
  simp only [List.append_nil] at hW'
  refine (law acode ccode lcode W wcode (hShaped)).mono fun e W' ⟨he, hg⟩ => ?_
  subst he
  exact ⟨_, rfl, post_of_below (pv := []) hW' (fun _ _ _ => trodAll_cons_mk (shut_bool Tryd.underlying4 _) trodAll_mk0)
    (fun sp hs => trodAll_cons_mk (trod_keeps (t := 22) (by kernel_rfl) (by kernel_rfl) (by kernel_rfl) k0 hg (fun x hx => hW'.lt x (by simp_all)) (fun x hx => hs x (by simp_all))) (trodAll_mk0))
    (fun _ _ => rfl) (by simp) hg (ok_one (by kernel_rfl) rfl (okWide_bool_mk Tryd.underlying4 _))⟩

theorem laid_met (os : Os) : laidMetH Tryd.prog Rows.fnSplitRow.laid ((World.laidAll Tryd.prog os Rows.fnSplitRow.laid).forCall (fun _ _ => 0) ⟨#[], #[.slice none 0 0], []⟩).memory :=
  (by rw [MakeChecks.laidMetH_plain _ _ _ (by kernel_rfl)]; exact laidMet_laidAll _ (by kernel_rfl) (by kernel_rfl))
theorem reads (os : Os) {H : Type} (enc : TypeId × Value → H) : ∃ places, DataW.whole enc Tryd.prog ((World.laidAll Tryd.prog os Rows.fnSplitRow.laid).forCall (fun _ _ => 0) ⟨#[], #[.slice none 0 0], []⟩).memory Tryd.f4.params.toList Rows.fnSplitSpec.vars false (#[.slice none 0 0] : Array Value).toList 8 = some ([.nil], [], places) :=
  ⟨[], by kernel_rfl⟩

set_option maxRecDepth 100000 in
theorem lifted (os : Os) (started : os.Started) (H : Type) (enc : TypeId × Value → H) (F : Stop.Interp) :
    ReturnsInHanded {} Tryd.checked os 4 .any ((OpenSpec.ofChange Rows.fnSplitSpec).preRow enc Tryd.prog Tryd.f4 Rows.fnSplitRow.domain false Rows.fnSplitRow.laid) (((OpenSpec.ofChange Rows.fnSplitSpec).at F).post enc Tryd.prog Tryd.f4 false true false false) := by
  obtain ⟨places, hx⟩ := reads os enc
  refine returnsInHanded_of_row (C := Tryd.checked) (s := OpenSpec.ofChange Rows.fnSplitSpec) Low.own started (by kernel_rfl) Tryd.func4
    (witness_row_atRef (enc := enc) (C := Tryd.checked) false (World.laidAll Tryd.prog os Rows.fnSplitRow.laid) #[.slice none 0 0] (World.laidAll_os _ _ _) (by kernel_rfl) (by kernel_rfl) (by kernel_rfl)
      (OpenSpec.preRow_of_cond 8 hx (by kernel_rfl) (fun k hk => by cases hk) (by kernel_rfl) (laid_met os))) ?_
  intro W base args ds gs before hval hW _ _ _ hL hShaped _
  exact contract H enc W base args ds gs before hval hW hL hShaped

theorem said : Rows.FnSplitSaid :=
  OpenClaim.holds_of_cond 4 Tryd.f4 rfl rfl rfl rfl rfl rfl rfl ⟨rfl, rfl, rfl, rfl, rfl⟩ rfl rfl rfl rfl rfl (by kernel_rfl) Tryd.func4 (by kernel_rfl)
    (of_decide_eq_true (by kernel_rfl)) (by unfold Func.isWrapper; first | (rw [if_pos (by decide +kernel)]; kernel_rfl) | (rw [if_neg (by decide +kernel)]; exact ⟨rfl, rfl⟩))
    (fun os started H enc _ F => by rw [OpenClaim.pre_eq_preRow]; exact lifted os started H enc F)

theorem looks (f : FuncId) (fn : Func) (hf : Tryd.pinned.checked.prog.funcNamed "loop.example/g03105/laws.FnSplit" = some f) (hfn : Tryd.pinned.checked.prog.funcs[f]? = some fn) :
    true = Tryd.pinned.checked.prog.looks [] ∧ ∀ (j : Nat) t, fn.params[j]? = some t → Tryd.pinned.checked.prog.wantsStandIn t = false := by
  obtain rfl : f = 4 := Option.some.inj ((show Tryd.prog.funcNamed "loop.example/g03105/laws.FnSplit" = some 4 by kernel_rfl).symm.trans hf) |>.symm
  obtain rfl : fn = Tryd.f4 := (Option.some.inj (Tryd.func4.symm.trans hfn)).symm
  refine ⟨by kernel_rfl, fun j t ht => ?_⟩
  rw [Tryd.params4] at ht
  have hm : t ∈ [22] := by simpa using Array.mem_of_getElem? ht
  have hall : ([22].all fun u => !Tryd.prog.wantsStandIn u) = true := by kernel_rfl
  exact (show Tryd.prog.wantsStandIn t = false by simpa using List.all_eq_true.1 hall t hm)

theorem card : Rows.FnSplitCardSaid :=
  Claim7.holds_tied_plain_at .later [] _ _ _ _ said (fun _ h => by cases h) (by kernel_rfl) (fun _ h => by cases h) fnSplit_row_tie rfl ⟨rfl, rfl⟩ (by kernel_rfl) rfl looks (by kernel_rfl)
end Go.Proofs.YtdjkckingelhjaaDoor.fnSplit
