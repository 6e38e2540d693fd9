/-
  At every text and every byte the program's SplitByte returns the pieces that the model returns, and its result is memory of its own.
-/
import Derived.Test.YtdjkckingelhjaaDoorCards
import Derived.Test.YtdjkckingelhjaaDoorTie
import Derived.Test.YtdjkckingelhjaaDoorBase
import Derived.Test.YtdjkckingelhjaaDoorLow
import Derived.Test.YtdjkckingelhjaaDoorSlice
import Derived.Test.YtdjkckingelhjaaDoorStrs
import Derived.Test.YtdjkckingelhjaaDoorMarks
import Derived.Test.YtdjkckingelhjaaDoorSplit
import Derived.Test.YtdjkckingelhjaaDoorShelfSplit
import Derived.Deep.DeepWitnessRowRef
import Derived.Lay
import Derived.OpenShut
import Derived.Deep.DeepHandedRow
import Derived.LaidMore
namespace Go.Proofs.YtdjkckingelhjaaDoor.fnExactSplitByte
open Go.ChangeShapes Go.WideShapes Go.ChangeAt Go.RowKit Go.Sort
open Go.ChangeMaps (open_string)

theorem shaped_below {P : Program} {w w' : World} (h : w.ShapedOpen P) (hb : Below w.heap.size w w') : w'.ShapedOpen P := h.keptBut (hb.frame (fun _ => False)) (fun _ h => h.elim)

set_option maxRecDepth 10000 in
theorem impl_SplitByte (s : ByteArray) (c : UInt8) (w : World) (hsh : w.ShapedOpen Tryd.prog) (hs : s.size ≤ 1048576) :
    Calls Tryd.prog 18 #[.string s, .int .u8 c.toNat] w fun e w' =>
      (∃ g, e = .returned (.slice (some ⟨g, 0, none⟩) (strCells (Split.pieces c s)).length (strCells (Split.pieces c s)).length) ∧ w.heap.size ≤ g ∧ Blk w' g 9 (strCells (Split.pieces c s)).toArray) ∧ Below w.heap.size w w' := by
  have hb0 : Below w.heap.size w (w.alloc (.cells #[.int .u8 c.toNat] 5)) := (Below.refl _ _).alloc (Nat.le_refl _) _
  have hc8 := c.toNat_lt
  have hcv := fun W => Fmt.one_byte W (c.toNat : Int) (by omega) (by omega)
  have hone : UInt8.ofNat ((c.toNat : Int)).toNat = c := by simp
  rw [hone] at hcv
  have hj := Tryd.strings_Split_shaped s ⟨#[c]⟩ _ (shaped_below hsh hb0) (by omega) (Nat.le_refl 1)
  rw [Split.lib_pieces s ⟨#[c]⟩ c rfl] at hj
  have hcount : Go.Lib.countB s ⟨#[c]⟩ + 1 = (strCells (Split.pieces c s)).length := by
    rw [← Go.Lib.splitB_all ⟨#[c]⟩ (Nat.le_refl 1) 0 _ s rfl, Split.lib_pieces s ⟨#[c]⟩ c rfl]; simp [strCells]
  rw [hcount] at hj
  have Hj := Lib.hid hj; clear hj hcount hone
  go_enter Tryd.func18, Tryd.ntmps18
  go_wp2_with fail
  refine Hj.out.mono ?_
  rintro e w' ⟨rfl, rfl⟩
  go_wp2
  go_ret
  refine ⟨⟨_, rfl, by simp, ?_⟩, (hb0.alloc (by simp) _)⟩
  have h := Blk.new (w.alloc (.cells #[.int .u8 c.toNat] 5)) 9 (strCells (Split.pieces c s)).toArray
  simpa [strCells] using h

theorem law (s : ByteArray) (hsz : s.size ≤ maxLen) (by_ : Int) (h0 : 0 ≤ by_) (h255 : by_ ≤ 255) (w : World) (hsh : w.ShapedOpen Tryd.prog) :
    Calls Tryd.prog 8 #[.string s, .int .u8 by_] w fun e w' => e = .returned (.bool true) ∧ Below w.heap.size w w' := by
  unfold maxLen at hsz
  obtain ⟨c, rfl⟩ : ∃ c : UInt8, by_ = c.toNat := ⟨UInt8.ofNat by_.toNat, by simp; omega⟩
  clear h0 h255
  have Hsh := Lib.hid hsh; clear hsh
  by_cases h1 : s.size ≤ 1048576
  · have hlen := Split.pieces_length c s
    have hmem : ∀ v ∈ strCells (Split.pieces c s), ∃ x, v = Value.string x := fun v hv => by
      simp only [strCells, List.mem_map] at hv
      obtain ⟨x, _, rfl⟩ := hv
      exact ⟨x, rfl⟩
    have hsc := fun w => spec_SplitByte s c w h1
    have him := fun w h => impl_SplitByte s c w h h1
    have hn : (strCells (Split.pieces c s)).length = (Split.pieces c s).length := by simp [strCells]
    rw [hn] at him
    generalize Split.pieces c s = l at hlen hmem hsc him hn
    have Hn := Lib.hid hn; have Hmem := Lib.hid hmem; have Hsc := Lib.hid hsc; have Him := Lib.hid him
    clear hn hmem hsc him
    go_enter Tryd.func8, Tryd.ntmps8
    go_wp2_with fail
    refine (Hsc.out w).mono ?_
    rintro e w1 ⟨⟨v, rfl, hown⟩, hb1⟩
    obtain ⟨av, cv, rfl, hrow⟩ := own_row hown Hn.out
    have hrow0 := hrow
    clear hown
    go_wp2_with fail
    refine (Him.out w1 (shaped_below Hsh.out hb1)).mono ?_
    rintro e w2 ⟨⟨g, rfl, hg, hk2⟩, hb2⟩
    have hb2' : Below w.heap.size w w2 := hb1.trans (hb2.mono hb1.size)
    have hrow2 : RowAt w2 av (strCells l) := hrow.below hb2
    have Hk2 := Lib.hid hk2; clear hk2 hrow
    go_wp2_with fail
    refine (eqStringS _ _ _ _ l w2 Hk2.out.row hrow2 (by omega)).mono ?_
    rintro e w3 ⟨rfl, hb3⟩
    have hb3' : Below w.heap.size w w3 := hb2'.trans (hb3.mono hb2'.size)
    have Hk3 := Lib.hid (Hk2.out.below hb3 Hk2.out.lt)
    have hms := markStringS g l.length 1 (strCells l) w3 Hk3.out Hmem.out (by omega) (by omega) (by rw [Hn.out]; omega)
    rw [Hn.out] at hms
    have Hms := Lib.hid hms; clear hms
    go_wp2_with fail
    refine Hms.out.mono ?_
    rintro e w4 ⟨rfl, hk4, hg4⟩
    have hlw : w.heap.size ≤ g := Nat.le_trans hb1.size hg
    have hb4' : Below w.heap.size w w4 := below_of_only hb3' hg4 hlw
    have hrow3 : RowAt w3 av (strCells l) := hrow2.below hb3
    have hrow4 : RowAt w4 av (strCells l) := row_only hrow0 hg (hb2.trans (hb3.mono hb2.size)) hg4
    have Hk4 := Lib.hid hk4; clear hk4 hrow3 hrow2
    go_wp2_with fail
    refine (heldStringS (some ⟨g, 0, none⟩) l.length l.length 1 w4 Hk4.out.row (by omega) (by omega) (by omega)).mono ?_
    rintro e w5 ⟨rfl, hb5⟩
    have hb5' : Below w.heap.size w w5 := hb4'.trans (hb5.mono hb4'.size)
    have Hk5 := Lib.hid (Hk4.out.below hb5 Hk4.out.lt)
    have hrow5 : RowAt w5 av (strCells l) := hrow4.below hb5
    have hge : ¬ (((1 + l.length : Nat) : Int) < 0) := by omega
    go_wp2_with fail
    refine (Him.out w5 (shaped_below Hsh.out hb5')).mono ?_
    rintro e w6 ⟨⟨g6, rfl, hg6, hk6⟩, hb6⟩
    have hb6' : Below w.heap.size w w6 := hb5'.trans (hb6.mono hb5'.size)
    have Hk6 := Lib.hid hk6
    have Hk5b := Lib.hid (Hk5.out.below hb6 Hk5.out.lt)
    clear hk6
    go_wp2_with fail
    refine (eqStringS _ _ _ _ l w6 Hk6.out.row (hrow5.below hb6) (by omega)).mono ?_
    rintro e w7 ⟨rfl, hb7⟩
    have hb7' : Below w.heap.size w w7 := hb6'.trans (hb7.mono hb6'.size)
    have Hk7 := Lib.hid (Hk5b.out.below hb7 Hk5b.out.lt)
    go_wp2_with fail
    refine (heldStringS (some ⟨g, 0, none⟩) l.length l.length 1 w7 Hk7.out.row (by omega) (by omega) (by omega)).mono ?_
    rintro e w8 ⟨rfl, hb8⟩
    have hb8' : Below w.heap.size w w8 := hb7'.trans (hb8.mono hb7'.size)
    go_wp2
    go_ret
    exact ⟨rfl, hb8'⟩
  · have h2 : 1048576 < s.size := by omega
    go_enter Tryd.func8, Tryd.ntmps8
    go_wp2
    go_ret
    exact ⟨rfl, Below.refl _ _⟩

set_option maxRecDepth 100000 in
theorem contract (H : Type) (enc : TypeId × Value → H) (W : World) (base : Nat) (args : Array Value) (ds gs : List (DataW H)) (before : List MemPlace)
    (hval : ∀ (j : Nat) t v, Tryd.f8.params[j]? = some t → args[j]? = some v → Value.okWide Tryd.prog W .any base t v)
    (hW : DataW.Whole enc Tryd.prog Tryd.f8.params.toList Rows.fnExactSplitByteSpec.vars false W args.toList ds gs before) (hL : laidMetH Tryd.prog Rows.fnExactSplitByteRow.laid W) (hShaped : W.ShapedOpen Tryd.prog) :
    Calls Tryd.prog 8 args W fun e W' => ∃ v, e = .returned v ∧ Rows.fnExactSplitByteSpec.post enc Tryd.prog Tryd.f8 false true false false W args v W' := by
  have hW' := hW
  obtain ⟨p, q, hA0, hV, rfl, hfz, hnd⟩ := hW
  have hA : DataW.TrodAll enc Tryd.prog W 0 (fun _ => true) true Tryd.f8.params.toList args.toList ds p := hA0
  rw [Tryd.params8] at hA hval
  obtain ⟨v0, vs0, d0, ds0, p0, q0, hargs, rfl, rfl, h0, r0⟩ := trodAll_cons hA
  obtain ⟨v1, vs1, d1, ds1, p1, q1, rfl, rfl, rfl, h1, r1⟩ := trodAll_cons r0
  obtain ⟨rfl, rfl, rfl⟩ := trodAll_nil r1
  obtain rfl : args = #[v0, v1] := by cases args; simp_all
  obtain ⟨rfl, rfl⟩ := trodVars_none hV
  have k0 := h0
  have k1 := h1
  obtain ⟨s, rfl, rfl, rfl, ws⟩ := open_string Tryd.underlying9 (hval 0 9 v0 rfl rfl) h0
  obtain ⟨x, rfl, rfl, rfl, wx⟩ := open_int Tryd.underlying5 (hval 1 5 v1 rfl rfl) h1
  have bx := bounds_u8 wx
  clear hA0
  simp only [List.append_nil] at hW'
  refine (law s ws x bx.1 bx.2 W (hShaped)).mono fun e W' ⟨he, hg⟩ => ?_
  subst he
  exact ⟨_, rfl, post_of_below (pv := []) hW' (fun _ _ _ => trodAll_cons_mk (shut_bool Tryd.underlying4 _) trodAll_mk0)
    (fun sp hs => trodAll_cons_mk (trod_keeps (t := 9) (by kernel_rfl) (by kernel_rfl) (by kernel_rfl) k0 hg (fun x hx => hW'.lt x (by simp_all)) (fun x hx => hs x (by simp_all))) (trodAll_cons_mk (trod_keeps (t := 5) (by kernel_rfl) (by kernel_rfl) (by kernel_rfl) k1 hg (fun x hx => hW'.lt x (by simp_all)) (fun x hx => hs x (by simp_all))) (trodAll_mk0)))
    (fun _ _ => rfl) (by simp) hg (ok_one (by kernel_rfl) rfl (okWide_bool_mk Tryd.underlying4 _))⟩

theorem laid_met (os : Os) : laidMetH Tryd.prog Rows.fnExactSplitByteRow.laid ((World.laidAll Tryd.prog os Rows.fnExactSplitByteRow.laid).forCall (fun _ _ => 0) ⟨#[], #[.string ByteArray.empty, .int .u8 0], []⟩).memory :=
  (by rw [MakeChecks.laidMetH_plain _ _ _ (by kernel_rfl)]; exact laidMet_laidAll _ (by kernel_rfl) (by kernel_rfl))
theorem reads (os : Os) {H : Type} (enc : TypeId × Value → H) : ∃ places, DataW.whole enc Tryd.prog ((World.laidAll Tryd.prog os Rows.fnExactSplitByteRow.laid).forCall (fun _ _ => 0) ⟨#[], #[.string ByteArray.empty, .int .u8 0], []⟩).memory Tryd.f8.params.toList Rows.fnExactSplitByteSpec.vars false (#[.string ByteArray.empty, .int .u8 0] : Array Value).toList 8 = some ([.lit (.string []), .lit (.int .u8 0)], [], places) :=
  ⟨[], by kernel_rfl⟩

set_option maxRecDepth 100000 in
theorem lifted (os : Os) (started : os.Started) (H : Type) (enc : TypeId × Value → H) (F : Stop.Interp) :
    ReturnsInHanded {} Tryd.checked os 8 .any ((OpenSpec.ofChange Rows.fnExactSplitByteSpec).preRow enc Tryd.prog Tryd.f8 Rows.fnExactSplitByteRow.domain false Rows.fnExactSplitByteRow.laid) (((OpenSpec.ofChange Rows.fnExactSplitByteSpec).at F).post enc Tryd.prog Tryd.f8 false true false false) := by
  obtain ⟨places, hx⟩ := reads os enc
  refine returnsInHanded_of_row (C := Tryd.checked) (s := OpenSpec.ofChange Rows.fnExactSplitByteSpec) Low.own started (by kernel_rfl) Tryd.func8
    (witness_row_atRef (enc := enc) (C := Tryd.checked) false (World.laidAll Tryd.prog os Rows.fnExactSplitByteRow.laid) #[.string ByteArray.empty, .int .u8 0] (World.laidAll_os _ _ _) (by kernel_rfl) (by kernel_rfl) (by kernel_rfl)
      (OpenSpec.preRow_of_cond 8 hx (by kernel_rfl) (fun k hk => by cases hk) (by kernel_rfl) (laid_met os))) ?_
  intro W base args ds gs before hval hW _ _ _ hL hShaped _
  exact contract H enc W base args ds gs before hval hW hL hShaped

theorem said : Rows.FnExactSplitByteSaid :=
  OpenClaim.holds_of_cond 8 Tryd.f8 rfl rfl rfl rfl rfl rfl rfl ⟨rfl, rfl, rfl, rfl, rfl⟩ rfl rfl rfl rfl rfl (by kernel_rfl) Tryd.func8 (by kernel_rfl)
    (of_decide_eq_true (by kernel_rfl)) (by unfold Func.isWrapper; first | (rw [if_pos (by decide +kernel)]; kernel_rfl) | (rw [if_neg (by decide +kernel)]; exact ⟨rfl, rfl⟩))
    (fun os started H enc _ F => by rw [OpenClaim.pre_eq_preRow]; exact lifted os started H enc F)

theorem looks (f : FuncId) (fn : Func) (hf : Tryd.pinned.checked.prog.funcNamed "loop.example/g03105/laws.FnExactSplitByte" = some f) (hfn : Tryd.pinned.checked.prog.funcs[f]? = some fn) :
    true = Tryd.pinned.checked.prog.looks [] ∧ ∀ (j : Nat) t, fn.params[j]? = some t → Tryd.pinned.checked.prog.wantsStandIn t = false := by
  obtain rfl : f = 8 := Option.some.inj ((show Tryd.prog.funcNamed "loop.example/g03105/laws.FnExactSplitByte" = some 8 by kernel_rfl).symm.trans hf) |>.symm
  obtain rfl : fn = Tryd.f8 := (Option.some.inj (Tryd.func8.symm.trans hfn)).symm
  refine ⟨by kernel_rfl, fun j t ht => ?_⟩
  rw [Tryd.params8] at ht
  have hm : t ∈ [9, 5] := by simpa using Array.mem_of_getElem? ht
  have hall : ([9, 5].all fun u => !Tryd.prog.wantsStandIn u) = true := by kernel_rfl
  exact (show Tryd.prog.wantsStandIn t = false by simpa using List.all_eq_true.1 hall t hm)

theorem card : Rows.FnExactSplitByteCardSaid :=
  Claim7.holds_tied_plain_at .later [] _ _ _ _ said (fun _ h => by cases h) (by kernel_rfl) (fun _ h => by cases h) fnExactSplitByte_row_tie rfl ⟨rfl, rfl⟩ (by kernel_rfl) rfl looks (by kernel_rfl)
end Go.Proofs.YtdjkckingelhjaaDoor.fnExactSplitByte
