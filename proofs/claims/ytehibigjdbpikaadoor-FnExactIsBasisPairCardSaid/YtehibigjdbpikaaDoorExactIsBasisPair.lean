/-
  At every argument the program's IsBasisPair returns what the model returns, writes into no argument, and its answer owns its memory.
-/
import Derived.Test.YtehibigjdbpikaaDoorCards
import Derived.Test.YtehibigjdbpikaaDoorTie
import Derived.Test.YtehibigjdbpikaaDoorBase
import Derived.Test.YtehibigjdbpikaaDoorLow
import Derived.Test.YtehibigjdbpikaaDoorDoorLow
import Derived.Test.YtehibigjdbpikaaDoorSlice
import Derived.Test.YtehibigjdbpikaaDoorIntRow
import Derived.Test.YtehibigjdbpikaaDoorInts
import Derived.Test.YtehibigjdbpikaaDoorOwn
import Derived.Test.YtehibigjdbpikaaDoorTw
import Derived.Test.YtehibigjdbpikaaDoorTwErr
import Derived.Test.YtehibigjdbpikaaDoorSl
import Derived.Test.YtehibigjdbpikaaDoorSlK
import Derived.Test.YtehibigjdbpikaaDoorSlA
import Derived.Test.YtehibigjdbpikaaDoorSlB
import Derived.Test.YtehibigjdbpikaaDoorSlS
import Derived.Deep.DeepWitnessRowRef
import Derived.OpenShut
import Derived.Deep.DeepHandedRow
import Derived.LaidMore
import Derived.Stop.LaidErr
import Derived.Deep.RegionHeld3
import Derived.Deep.RegionWith
import Derived.Deep.CutRange
namespace Go.Proofs.YtehibigjdbpikaaDoor.fnExactIsBasisPair
open Go.ChangeShapes Go.WideShapes Go.ChangeAt Go.RowKit Go.Sort
open Go.ChangeMaps (open_string)

/-- Two blocks that are kept, and whatever is kept beside them. -/
theorem pair_go {P : World → Prop} {N : Nat} {x y p q : Int} {W W1 : World} (hP : ∀ W W1, P W → Below W.heap.size W W1 → P W1)
    (h : W.cell? ⟨N, 0, none⟩ = some (.int .i64 x) ∧ W.cell? ⟨N, 1, none⟩ = some (.int .i64 y) ∧ W.cell? ⟨N + 1, 0, none⟩ = some (.int .i64 p) ∧ W.cell? ⟨N + 1, 1, none⟩ = some (.int .i64 q) ∧ Blk W N 23 #[.int .i64 x, .int .i64 y] ∧ Blk W (N + 1) 23 #[.int .i64 p, .int .i64 q] ∧ P W) (hb : Below W.heap.size W W1) :
    W1.cell? ⟨N, 0, none⟩ = some (.int .i64 x) ∧ W1.cell? ⟨N, 1, none⟩ = some (.int .i64 y) ∧ W1.cell? ⟨N + 1, 0, none⟩ = some (.int .i64 p) ∧ W1.cell? ⟨N + 1, 1, none⟩ = some (.int .i64 q) ∧ Blk W1 N 23 #[.int .i64 x, .int .i64 y] ∧ Blk W1 (N + 1) 23 #[.int .i64 p, .int .i64 q] ∧ P W1 := by
  obtain ⟨_, _, _, _, hA, hB, hR⟩ := h
  have hA' := hA.below hb hA.lt
  have hB' := hB.below hb hB.lt
  exact ⟨hA'.cell 0, hA'.cell 1, hB'.cell 0, hB'.cell 1, hA', hB', hP _ _ hR hb⟩
theorem keep_cell {W w1 : World} (hb : Below W.heap.size W w1) : ∀ g i, g < W.heap.size → w1.cell? ⟨g, i, none⟩ = W.cell? ⟨g, i, none⟩ := fun g i h => hb.cell (p := ⟨g, i, none⟩) h
theorem keep_frozen {W w1 : World} (hb : Below W.heap.size W w1) : ∀ g i, g < W.heap.size → w1.frozen? ⟨g, i, none⟩ = W.frozen? ⟨g, i, none⟩ := fun g i h => hb.frozen (p := ⟨g, i, none⟩) h
theorem keep_lt {W w1 : World} (hb : Below W.heap.size W w1) : ∀ K, K < W.heap.size → K < w1.heap.size := fun K h => Nat.lt_of_lt_of_le h hb.size
theorem start (w : World) (x y p q : Int) (N : Nat) (hN : w.heap.size = N) : Blk ((w.alloc (.cells #[.int .i64 x, .int .i64 y] 23)).alloc (.cells #[.int .i64 p, .int .i64 q] 23)) N 23 #[.int .i64 x, .int .i64 y] ∧ Blk ((w.alloc (.cells #[.int .i64 x, .int .i64 y] 23)).alloc (.cells #[.int .i64 p, .int .i64 q] 23)) (N + 1) 23 #[.int .i64 p, .int .i64 q] ∧ N + 2 ≤ ((w.alloc (.cells #[.int .i64 x, .int .i64 y] 23)).alloc (.cells #[.int .i64 p, .int .i64 q] 23)).heap.size ∧ Below N w ((w.alloc (.cells #[.int .i64 x, .int .i64 y] 23)).alloc (.cells #[.int .i64 p, .int .i64 q] 23)) := by
  subst hN
  exact ⟨(Blk.new w _ _).alloc _, Blk.at (size_alloc rfl _) _ _, by simp, ((Below.refl w.heap.size w).alloc (Nat.le_refl _) _).alloc (by simp) _⟩
set_option maxRecDepth 10000 in
set_option maxHeartbeats 8000000 in
theorem law (x y p q : Int) (w : World) (_ : I64s [x, y]) (_ : I64s [p, q]) (hE : Errs w) :
    Calls Tryd.prog 11 #[.agg #[.int .i64 x, .int .i64 y], .agg #[.int .i64 p, .int .i64 q]] w fun e w' => e = .returned (.bool true) ∧ Below w.heap.size w w' := by
  have hs := fun W => spec_IsBasisPair x y p q W
  have hi := fun W (hb : Below w.heap.size w W) => impl_IsBasisPair x y p q W (hE.keeps hb)
  generalize decide (Sl.crossN x y p q = 1) = v at *
  have Hs := Lib.hid hs; have Hi := Lib.hid hi; clear hs hi hE 
  generalize hN : w.heap.size = N at *
  have HN := Lib.hid hN
  go_enter Tryd.func11, Tryd.ntmps11
  go_upto_region 1 with fail
  go_cut [5] from 7 to 11 (fun s5 wx => s5 = .bool v ∧ Blk wx N 23 #[.int .i64 x, .int .i64 y] ∧ Blk wx (N + 1) 23 #[.int .i64 p, .int .i64 q] ∧ N + 2 ≤ wx.heap.size ∧ Below N w wx)
  case first =>
    have hP : ∀ W W1 : World, (N + 2 ≤ W.heap.size ∧ Below N w W) → Below W.heap.size W W1 → (N + 2 ≤ W1.heap.size ∧ Below N w W1) := fun W W1 h hb => ⟨Nat.le_trans h.1 hb.size, h.2.trans (hb.mono (by have := h.1; omega))⟩
    obtain ⟨hA1, hB1, hz1, hl1⟩ := start w x y p q N HN.out
    have hS0 := And.intro (hA1.cell 0) (And.intro (hA1.cell 1) (And.intro (hB1.cell 0) (And.intro (hB1.cell 1) (And.intro hA1 (And.intro hB1 (And.intro hz1 hl1))))))
    clear hA1 hB1 hl1 hz1
    go_region_held3 (fun w' => w'.cell? ⟨N, 0, none⟩ = some (.int .i64 x) ∧ w'.cell? ⟨N, 1, none⟩ = some (.int .i64 y) ∧ w'.cell? ⟨N + 1, 0, none⟩ = some (.int .i64 p) ∧ w'.cell? ⟨N + 1, 1, none⟩ = some (.int .i64 q) ∧ Blk w' N 23 #[.int .i64 x, .int .i64 y] ∧ Blk w' (N + 1) 23 #[.int .i64 p, .int .i64 q] ∧ (N + 2 ≤ w'.heap.size ∧ Below N w w')) (first | (with_reducible assumption) | (with_reducible exact pair_go hP (by assumption) ((Below.refl _ _).alloc (Nat.le_refl _) _)) | (with_reducible exact pair_go hP hS0 (Below.drew (Below.refl _ _))) | (with_reducible exact pair_go hP hS0 (below_drewN (Below.refl _ _) _)))
      (first
      | (go_at_call_of 13 x; refine (toSlope x y _).mono ?_; rintro e w1 ⟨rfl, hb1⟩; have hS1 := pair_go hP (by assumption) hb1; have hz1 := hS1.2.2.2.2.2.2.1; have hL1 := hS1.2.2.2.2.2.2.2; have hk1 := keep_cell hb1; have hf1 := keep_frozen hb1; have hl1 := keep_lt hb1; have Hb1 := Lib.hid hb1; clear hb1)
      | (go_at_call_of 13 p; refine (toSlope p q _).mono ?_; rintro e w2 ⟨rfl, hb2⟩; have hS2 := pair_go hP (by assumption) hb2; have hz2 := hS2.2.2.2.2.2.2.1; have hL2 := hS2.2.2.2.2.2.2.2; have hk2 := keep_cell hb2; have hf2 := keep_frozen hb2; have hl2 := keep_lt hb2; have Hb2 := Lib.hid hb2; clear hb2)
      | (go_at_call 33; refine (Hs.out _).mono ?_; rintro e w3 ⟨rfl, hb3⟩; have hS3 := pair_go hP (by assumption) hb3; have hz3 := hS3.2.2.2.2.2.2.1; have hL3 := hS3.2.2.2.2.2.2.2; have hk3 := keep_cell hb3; have hf3 := keep_frozen hb3; have hl3 := keep_lt hb3; have Hb3 := Lib.hid hb3; clear hb3))
    all_goals
      go_wp2_with fail
      go_meet
      obtain ⟨_, _, _, _, hA, hB, hz, hl⟩ := hS3
      exact ⟨rfl, hA, hB, hz, hl⟩
  case rest =>
  obtain ⟨rfl, hA1, hB1, hz1, hl1⟩ := hcut
  have HA1 := Lib.hid hA1; have HB1 := Lib.hid hB1; have Hl1 := Lib.hid hl1; have Hz1 := Lib.hid hz1
  obtain ⟨_, _, _, _⟩ := hA1.four
  obtain ⟨_, _, _, _⟩ := hB1.four
  clear hA1 hB1 hl1 hz1
  go_upto_region 2 with fail
  go_cut [6] from 12 to 16 (fun s6 wx => s6 = .bool v ∧ Below N w wx)
  case first =>
    have hP : ∀ W W1 : World, (N + 2 ≤ W.heap.size ∧ Below N w W) → Below W.heap.size W W1 → (N + 2 ≤ W1.heap.size ∧ Below N w W1) := fun W W1 h hb => ⟨Nat.le_trans h.1 hb.size, h.2.trans (hb.mono (by have := h.1; omega))⟩
    have hS0 := And.intro (HA1.out.cell 0) (And.intro (HA1.out.cell 1) (And.intro (HB1.out.cell 0) (And.intro (HB1.out.cell 1) (And.intro HA1.out (And.intro HB1.out (And.intro Hz1.out Hl1.out))))))
    go_region_held3 (fun w' => w'.cell? ⟨N, 0, none⟩ = some (.int .i64 x) ∧ w'.cell? ⟨N, 1, none⟩ = some (.int .i64 y) ∧ w'.cell? ⟨N + 1, 0, none⟩ = some (.int .i64 p) ∧ w'.cell? ⟨N + 1, 1, none⟩ = some (.int .i64 q) ∧ Blk w' N 23 #[.int .i64 x, .int .i64 y] ∧ Blk w' (N + 1) 23 #[.int .i64 p, .int .i64 q] ∧ (N + 2 ≤ w'.heap.size ∧ Below N w w')) (first | (with_reducible assumption) | (with_reducible exact pair_go hP (by assumption) ((Below.refl _ _).alloc (Nat.le_refl _) _)) | (with_reducible exact pair_go hP hS0 (Below.drew (Below.refl _ _))) | (with_reducible exact pair_go hP hS0 (below_drewN (Below.refl _ _) _)))
      (first
      | (go_at_call_of 13 x; refine (toSlope x y _).mono ?_; rintro e w1 ⟨rfl, hb1⟩; have hS1 := pair_go hP (by assumption) hb1; have hz1 := hS1.2.2.2.2.2.2.1; have hL1 := hS1.2.2.2.2.2.2.2; have hk1 := keep_cell hb1; have hf1 := keep_frozen hb1; have hl1 := keep_lt hb1; have Hb1 := Lib.hid hb1; clear hb1)
      | (go_at_call_of 13 p; refine (toSlope p q _).mono ?_; rintro e w2 ⟨rfl, hb2⟩; have hS2 := pair_go hP (by assumption) hb2; have hz2 := hS2.2.2.2.2.2.2.1; have hL2 := hS2.2.2.2.2.2.2.2; have hk2 := keep_cell hb2; have hf2 := keep_frozen hb2; have hl2 := keep_lt hb2; have Hb2 := Lib.hid hb2; clear hb2)
      | (go_at_call 34; refine (Hi.out _ (by first | exact hL2 | exact hL2.alloc hL2.size _ | exact Below.drew hL2 | exact hL1)).mono ?_; rintro e w3 ⟨rfl, hb3⟩; have hS3 := pair_go hP (by assumption) hb3; have hz3 := hS3.2.2.2.2.2.2.1; have hL3 := hS3.2.2.2.2.2.2.2; have hk3 := keep_cell hb3; have hf3 := keep_frozen hb3; have hl3 := keep_lt hb3; have Hb3 := Lib.hid hb3; clear hb3))
    all_goals
      go_wp2_with fail
      go_meet
      obtain ⟨_, _, _, _, hA, hB, hz, hl⟩ := hS3
      exact ⟨rfl, hl⟩
  case rest =>
  obtain ⟨rfl, hl⟩ := hcut
  have Hl := Lib.hid hl
  clear hl
  go_wp2
  go_ret
  exact ⟨rfl, Hl.out⟩

set_option maxRecDepth 100000 in
theorem contract (H : Type) (enc : TypeId × Value → H) (W : World) (base : Nat) (args : Array Value) (ds gs : List (DataW H)) (before : List MemPlace)
    (hval : ∀ (j : Nat) t v, Tryd.f11.params[j]? = some t → args[j]? = some v → Value.okWide Tryd.prog W .any base t v)
    (hW : DataW.Whole enc Tryd.prog Tryd.f11.params.toList Rows.fnExactIsBasisPairSpec.vars false W args.toList ds gs before) (hL : laidMetH Tryd.prog Rows.fnExactIsBasisPairRow.laid W) :
    Calls Tryd.prog 11 args W fun e W' => ∃ v, e = .returned v ∧ Rows.fnExactIsBasisPairSpec.post enc Tryd.prog Tryd.f11 false true false false W args v W' := by
  have hW' := hW
  obtain ⟨p, q, hA0, hV, rfl, hfz, hnd⟩ := hW
  have hA : DataW.TrodAll enc Tryd.prog W 0 (fun _ => true) true Tryd.f11.params.toList args.toList ds p := hA0
  rw [Tryd.params11] at hA hval
  obtain ⟨v0, vs0, d0, ds0, p0, q0, hargs, rfl, rfl, h0, r0⟩ := trodAll_cons hA
  obtain ⟨v1, vs1, d1, ds1, p1, q1, rfl, rfl, rfl, h1, r1⟩ := trodAll_cons r0
  obtain ⟨rfl, rfl, rfl⟩ := trodAll_nil r1
  obtain rfl : args = #[v0, v1] := by cases args; simp_all
  have hV : DataW.TrodVars enc Tryd.prog W (fun _ => true) ["loop.example/g03105/impl.errTooGreat"] gs q := hV
  obtain ⟨sa, hsv⟩ := Er.var_of hL (by rfl)
  have hvr : ∀ {X : World}, X.var? Tryd.prog "loop.example/g03105/impl.errTooGreat" = some #[.iface 117 (.pointer (some sa))] → ∀ sp : Nat → Bool, DataW.TrodVars enc Tryd.prog X sp ["loop.example/g03105/impl.errTooGreat"] [tok enc (.iface 117 (.pointer (some sa)))] [.cell 0 0] :=
    fun x0 sp => vars_read1 enc Er.gGreat Er.tGreat Tryd.underlying60 x0 trivial sp
  obtain ⟨rfl, rfl⟩ := hV.unique (hvr hsv _)
  have k0 := h0
  have k1 := h1
  obtain ⟨xA, yA, rfl, wA⟩ := Read.slope_of (hval 0 23 v0 rfl rfl) h0
  obtain ⟨xB, yB, rfl, wB⟩ := Read.slope_of (hval 1 23 v1 rfl rfl) h1
  clear hA0
  simp only [List.append_nil] at hW'
  refine (law xA yA xB yB W wA wB (errs_of hL (by rfl))).mono fun e W' ⟨he, hg⟩ => ?_
  subst he
  exact ⟨_, rfl, post_of_below (pv := [.cell 0 0]) hW' (fun _ _ _ => trodAll_cons_mk (shut_bool Tryd.underlying4 _) trodAll_mk0)
    (fun sp hs => trodAll_cons_mk (trod_keeps (t := 23) (by kernel_rfl) (by kernel_rfl) (by kernel_rfl) k0 hg (fun x hx => hW'.lt x (by simp_all)) (fun x hx => hs x (by simp_all))) (trodAll_cons_mk (trod_keeps (t := 23) (by kernel_rfl) (by kernel_rfl) (by kernel_rfl) k1 hg (fun x hx => hW'.lt x (by simp_all)) (fun x hx => hs x (by simp_all))) (trodAll_mk0)))
    (fun sp _ => hvr (Er.var_keeps hg Er.gGreat hsv) sp) (by simp) hg (ok_one (by kernel_rfl) rfl (okWide_bool_mk Tryd.underlying4 _))⟩

theorem laid_met (os : Os) : laidMetH Tryd.prog Rows.fnExactIsBasisPairRow.laid ((World.doorLaid Tryd.prog 81 os).forCall (fun _ _ => 0) ⟨#[], #[.agg #[.int .i64 0, .int .i64 0], .agg #[.int .i64 0, .int .i64 0]], []⟩).memory :=
  Low.met os #[.agg #[.int .i64 0, .int .i64 0], .agg #[.int .i64 0, .int .i64 0]] Rows.fnExactIsBasisPairRow.laid (Rows.fnExactIsBasisPairRow.laid.map (·.1)) (by rfl)
set_option maxRecDepth 100000 in
theorem lifted (os : Os) (started : os.Started) (H : Type) (enc : TypeId × Value → H) (F : Stop.Interp) :
    ReturnsInHanded {} Tryd.checked os 11 .any ((OpenSpec.ofChange Rows.fnExactIsBasisPairSpec).preRow enc Tryd.prog Tryd.f11 Rows.fnExactIsBasisPairRow.domain false Rows.fnExactIsBasisPairRow.laid) (((OpenSpec.ofChange Rows.fnExactIsBasisPairSpec).at F).post enc Tryd.prog Tryd.f11 false true false false) := by
  refine returnsInHanded_of_row (C := Tryd.checked) (s := OpenSpec.ofChange Rows.fnExactIsBasisPairSpec) Low.own started (by kernel_rfl) Tryd.func11
    (witness_row_atRef (enc := enc) (C := Tryd.checked) false (World.doorLaid Tryd.prog 81 os) #[.agg #[.int .i64 0, .int .i64 0], .agg #[.int .i64 0, .int .i64 0]] (by unfold World.doorLaid; rfl) (Low.shapeB os #[.agg #[.int .i64 0, .int .i64 0], .agg #[.int .i64 0, .int .i64 0]]) (Low.shapeR os #[.agg #[.int .i64 0, .int .i64 0], .agg #[.int .i64 0, .int .i64 0]]) (by kernel_rfl)
      (OpenSpec.preRow_of_B rfl 8 (by kernel_rfl) (by kernel_rfl) (laid_met os))) ?_
  intro W base args ds gs before hval hW _ _ _ hL hShaped _
  exact contract H enc W base args ds gs before hval hW hL

theorem said : Rows.FnExactIsBasisPairSaid :=
  OpenClaim.holds_of_cond 11 Tryd.f11 rfl rfl rfl rfl rfl rfl rfl ⟨rfl, rfl, rfl, rfl, rfl⟩ rfl rfl rfl rfl rfl (by kernel_rfl) Tryd.func11 (by kernel_rfl)
    (of_decide_eq_true (by kernel_rfl)) (by unfold Func.isWrapper; first | (rw [if_pos (by decide +kernel)]; kernel_rfl) | (rw [if_neg (by decide +kernel)]; exact ⟨rfl, rfl⟩))
    (fun os started H enc _ F => by rw [OpenClaim.pre_eq_preRow]; exact lifted os started H enc F)

theorem looks (f : FuncId) (fn : Func) (hf : Tryd.pinned.checked.prog.funcNamed "loop.example/g03105/laws.FnExactIsBasisPair" = some f) (hfn : Tryd.pinned.checked.prog.funcs[f]? = some fn) :
    true = Tryd.pinned.checked.prog.looks [] ∧ ∀ (j : Nat) t, fn.params[j]? = some t → Tryd.pinned.checked.prog.wantsStandIn t = false := by
  obtain rfl : f = 11 := Option.some.inj ((show Tryd.prog.funcNamed "loop.example/g03105/laws.FnExactIsBasisPair" = some 11 by kernel_rfl).symm.trans hf) |>.symm
  obtain rfl : fn = Tryd.f11 := (Option.some.inj (Tryd.func11.symm.trans hfn)).symm
  refine ⟨by kernel_rfl, fun j t ht => ?_⟩
  rw [Tryd.params11] at ht
  have hm : t ∈ [23, 23] := by simpa using Array.mem_of_getElem? ht
  have hall : ([23, 23].all fun u => !Tryd.prog.wantsStandIn u) = true := by kernel_rfl
  exact (show Tryd.prog.wantsStandIn t = false by simpa using List.all_eq_true.1 hall t hm)

theorem card : Rows.FnExactIsBasisPairCardSaid :=
  Claim7.holds_tied_plain_at .later [] _ _ _ _ said (fun _ h => by cases h) (by kernel_rfl) (fun _ h => by cases h) fnExactIsBasisPair_row_tie rfl ⟨rfl, rfl⟩ (by kernel_rfl) rfl looks (by kernel_rfl)
end Go.Proofs.YtehibigjdbpikaaDoor.fnExactIsBasisPair
