/-
  At every list of texts and every separator the program's Join returns what the model returns, and leaves the list as it was.
-/
import Derived.Test.YtdjkckingelhjaaBase
import Derived.Test.YtdjkckingelhjaaLow
import Derived.Test.YtdjkckingelhjaaSlice
import Derived.Test.YtdjkckingelhjaaStrs
import Derived.Test.YtdjkckingelhjaaJoin
import Derived.Test.YtdjkckingelhjaaReadStrs
import Derived.Test.YtdjkckingelhjaaShelfJoin
import Derived.OpenShut
import Derived.Deep.DeepHandedRow
import Derived.LaidMore
namespace Go.Proofs.Ytdjkckingelhjaa.fnExactJoin
open Go.ChangeShapes Go.WideShapes Go.ChangeAt Go.RowKit Go.Sort
open Go.ChangeMaps (open_string)

theorem impl_Join (b o c : Nat) (l : List ByteArray) (sep : ByteArray) (w : World) (ha : RowAt w (some ⟨b, o, none⟩) (strCells l)) (hl : l.length + total l ≤ 1048576) (hs : sep.size ≤ 1048576) (hc : l.length ≤ c) :
    Calls Try.prog 7 #[.slice (some ⟨b, o, none⟩) l.length c, .string sep] w fun e w' => e = .returned (.string ⟨(Lib.join (Join.texts l) sep.data.toList).toArray⟩) ∧ Below w.heap.size w w' := by
  by_cases h0 : l = []
  · subst h0
    have hj := Try.strings_Join_none (some ⟨b, o, none⟩) c sep w
    have Hj := Lib.hid hj; clear hj
    go_enter Try.func7, Try.ntmps7
    go_wp2_with fail
    refine Hj.out.mono ?_
    rintro e w' ⟨rfl, rfl⟩
    go_wp2
    go_ret
    exact ⟨rfl, Below.refl _ _⟩
  · have hpos : 0 < l.length := List.length_pos_iff.2 h0
    have hlen := Join.pre_len l sep l.length hl hs
    rw [List.take_of_length_le (Nat.le_refl _)] at hlen
    obtain ⟨b', o', e, hb, hcell⟩ := ha.at (i := 0) (by simpa [strCells] using hpos)
    obtain ⟨rfl, rfl⟩ : b = b' ∧ o = o' := by injection e with e; injection e with e1 e2; exact ⟨e1, e2⟩
    have hj := Try.strings_Join b o c l sep w (fun j x hx => hcell j _ (by simp [strCells, hx])) hb (by omega) hc (by unfold Join.texts at hlen; omega)
    have Hj := Lib.hid hj; clear hj e hcell
    go_enter Try.func7, Try.ntmps7
    go_wp2_with fail
    refine Hj.out.mono ?_
    rintro e w' ⟨rfl, hb'⟩
    go_wp2
    go_ret
    exact ⟨rfl, hb'⟩

theorem law (a : Option Addr) (c : Nat) (l : List ByteArray) (sep : ByteArray) (hsep : sep.size ≤ maxLen) (w : World) (hh : RowAt w a (strCells l) ∧ l.length ≤ maxLen ∧ ∀ s ∈ l, s.size ≤ maxLen) :
    Calls Try.prog 3 #[.slice a l.length c, .string sep] w fun e w' => e = .returned (.bool true) ∧ Below w.heap.size w w' := by
  obtain ⟨ha, hl, hs⟩ := hh
  unfold maxLen at hsep hl hs
  have Hs := Lib.hid hs; clear hs
  by_cases h1 : sep.size ≤ 1048576
  · have hz := szStringS a c l 1048576 w ha (by omega) (by omega) Hs.out
    have Hz := Lib.hid hz; clear hz
    go_enter Try.func3, Try.ntmps3
    go_wp2_with fail
    refine Hz.out.mono ?_
    rintro e w' ⟨⟨r, rfl, hr⟩, rfl⟩
    rcases hr with rfl | ⟨hr0, hr⟩
    · go_wp2
      go_ret
      exact ⟨rfl, Below.refl _ _⟩
    · have hll : l.length ≤ 1048576 := by omega
      go_wp2_with fail
      refine (toStringS a c l w ha hll).mono ?_
      rintro e w1 ⟨rfl, hk1, hb1⟩
      have hlt1 := hk1.lt
      go_wp2_with fail
      refine (spec_Join _ _ l sep w1 hk1.row hr h1).mono ?_
      rintro e w2 ⟨rfl, hb2⟩
      have hb2' : Below w.heap.size w w2 := hb1.trans (hb2.mono hb1.size)
      clear hk1
      go_wp2_with fail
      refine (toStringS a c l w2 (ha.below hb2') hll).mono ?_
      rintro e w3 ⟨rfl, hk3, hb3⟩
      have hlt3 := hk3.lt
      have hb3' : Below w.heap.size w w3 := hb2'.trans (hb3.mono hb2'.size)
      have Hk3 := Lib.hid hk3; clear hk3
      go_wp2_with fail
      refine (impl_Join w2.heap.size 0 l.length l sep w3 Hk3.out.row hr h1 (Nat.le_refl _)).mono ?_
      rintro e w4 ⟨rfl, hb4⟩
      have hb4' : Below w.heap.size w w4 := hb3'.trans (hb4.mono hb3'.size)
      go_wp2_with fail
      refine (toStringS a c l w4 (ha.below hb4') hll).mono ?_
      rintro e w5 ⟨rfl, hk5, hb5⟩
      have hb5' : Below w.heap.size w w5 := hb4'.trans (hb5.mono hb4'.size)
      have Hk5 := Lib.hid hk5; clear hk5
      go_wp2_with fail
      refine (eqStringS _ _ _ _ l w5 (Hk3.out.row.below (hb4.trans (hb5.mono hb4.size))) Hk5.out.row (by omega)).mono ?_
      rintro e w6 ⟨rfl, hb6⟩
      have hb6' : Below w.heap.size w w6 := hb5'.trans (hb6.mono hb5'.size)
      go_wp2
      go_ret
      exact ⟨rfl, hb6'⟩
  · have h2 : 1048576 < sep.size := by omega
    go_enter Try.func3, Try.ntmps3
    go_wp2
    go_ret
    exact ⟨rfl, Below.refl _ _⟩

set_option maxRecDepth 100000 in
theorem contract (H : Type) (enc : TypeId × Value → H) (W : World) (base : Nat) (args : Array Value) (ds gs : List (DataW H)) (before : List MemPlace)
    (hval : ∀ (j : Nat) t v, Try.f3.params[j]? = some t → args[j]? = some v → Value.okWide Try.prog W .any base t v)
    (hW : DataW.Whole enc Try.prog Try.f3.params.toList Rows.fnExactJoinSpec.vars false W args.toList ds gs before) :
    Calls Try.prog 3 args W fun e W' => ∃ v, e = .returned v ∧ Rows.fnExactJoinSpec.post enc Try.prog Try.f3 false true false false W args v W' := by
  have hW' := hW
  obtain ⟨p, q, hA0, hV, rfl, hfz, hnd⟩ := hW
  have hA : DataW.TrodAll enc Try.prog W 0 (fun _ => true) true Try.f3.params.toList args.toList ds p := hA0
  rw [Try.params3] at hA hval
  obtain ⟨v0, vs0, d0, ds0, p0, q0, hargs, rfl, rfl, h0, r0⟩ := trodAll_cons hA
  obtain ⟨v1, vs1, d1, ds1, p1, q1, rfl, rfl, rfl, h1, r1⟩ := trodAll_cons r0
  obtain ⟨rfl, rfl, rfl⟩ := trodAll_nil r1
  obtain rfl : args = #[v0, v1] := by cases args; simp_all
  obtain ⟨rfl, rfl⟩ := trodVars_none hV
  have k0 := h0
  have k1 := h1
  obtain ⟨al, cl, ll, rfl, wl⟩ := Read.strings_of (hval 0 22 v0 rfl rfl) h0
  obtain ⟨sep, rfl, rfl, rfl, wsep⟩ := open_string Try.underlying9 (hval 1 9 v1 rfl rfl) h1
  clear hA0
  simp only [List.append_nil] at hW'
  refine (law al cl ll sep wsep W wl).mono fun e W' ⟨he, hg⟩ => ?_
  subst he
  exact ⟨_, rfl, post_of_below (pv := []) hW' (fun _ _ _ => trodAll_cons_mk (shut_bool Try.underlying4 _) trodAll_mk0)
    (fun sp hs => trodAll_cons_mk (trod_keeps (t := 22) (by kernel_rfl) (by kernel_rfl) (by kernel_rfl) k0 hg (fun x hx => hW'.lt x (by simp_all)) (fun x hx => hs x (by simp_all))) (trodAll_cons_mk (trod_keeps (t := 9) (by kernel_rfl) (by kernel_rfl) (by kernel_rfl) k1 hg (fun x hx => hW'.lt x (by simp_all)) (fun x hx => hs x (by simp_all))) (trodAll_mk0)))
    (fun _ _ => rfl) (by simp) hg (ok_one (by kernel_rfl) rfl (okWide_bool_mk Try.underlying4 _))⟩

theorem reads (os : Os) {H : Type} (enc : TypeId × Value → H) : ∃ places, DataW.whole enc Try.prog ((World.holding Try.prog os ⟨#[], #[], []⟩).forCall (fun _ _ => 0) ⟨#[], #[.slice none 0 0, .string ByteArray.empty], []⟩).memory Try.f3.params.toList Rows.fnExactJoinSpec.vars false (#[.slice none 0 0, .string ByteArray.empty] : Array Value).toList 8 = some ([.nil, .lit (.string [])], [], places) :=
  ⟨[], by kernel_rfl⟩

set_option maxRecDepth 100000 in
theorem lifted (os : Os) (started : os.Started) (H : Type) (enc : TypeId × Value → H) (F : Stop.Interp) :
    ReturnsInHanded {} Try.checked os 3 .any ((OpenSpec.ofChange Rows.fnExactJoinSpec).preRow enc Try.prog Try.f3 Rows.fnExactJoinRow.domain false Rows.fnExactJoinRow.laid) (((OpenSpec.ofChange Rows.fnExactJoinSpec).at F).post enc Try.prog Try.f3 false true false false) := by
  obtain ⟨places, hx⟩ := reads os enc
  refine returnsInHanded_of_row (C := Try.checked) (s := OpenSpec.ofChange Rows.fnExactJoinSpec) Low.own started (by kernel_rfl) Try.func3
    (witness_row_at (enc := enc) (C := Try.checked) false (World.holding Try.prog os ⟨#[], #[], []⟩) #[.slice none 0 0, .string ByteArray.empty] rfl (by kernel_rfl) (by kernel_rfl) (by kernel_rfl)
      (OpenSpec.preRow_of_cond 8 hx (by kernel_rfl) (fun k hk => by cases hk) (by kernel_rfl) (laidMet_nil _ _))) ?_
  intro W base args ds gs before hval hW _ _ _ hL _ _
  exact contract H enc W base args ds gs before hval hW 

theorem said : Rows.FnExactJoinSaid :=
  OpenClaim.holds_of_cond 3 Try.f3 rfl rfl rfl rfl rfl rfl rfl ⟨rfl, rfl, rfl, rfl, rfl⟩ rfl rfl rfl rfl rfl (by kernel_rfl) Try.func3 (by kernel_rfl)
    (of_decide_eq_true (by kernel_rfl)) (by unfold Func.isWrapper; first | (rw [if_pos (by decide +kernel)]; kernel_rfl) | (rw [if_neg (by decide +kernel)]; exact ⟨rfl, rfl⟩))
    (fun os started H enc _ F => by rw [OpenClaim.pre_eq_preRow]; exact lifted os started H enc F)
end Go.Proofs.Ytdjkckingelhjaa.fnExactJoin
