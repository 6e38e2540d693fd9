/-
  The walks of AreEqualWords, HomologyOf and CommuteIn.
-/
import Derived.Test.YtfaagbmaekoogaaBase
import Derived.Test.YtfaagbmaekoogaaSlice
import Derived.Test.YtfaagbmaekoogaaInts
import Derived.Test.YtfaagbmaekoogaaOwn
import Derived.Test.YtfaagbmaekoogaaAppend
import Derived.Test.YtfaagbmaekoogaaWord
import Derived.Test.YtfaagbmaekoogaaIsWord
import Derived.Test.YtfaagbmaekoogaaConcat
import Derived.Test.YtfaagbmaekoogaaInvert
import Derived.Test.YtfaagbmaekoogaaSums
import Derived.Test.YtfaagbmaekoogaaAm
import Derived.Test.YtfaagbmaekoogaaGrpA
import Derived.Test.YtfaagbmaekoogaaGrpC
import Derived.Test.YtfaagbmaekoogaaGrpE
import Derived.Test.YtfaagbmaekoogaaGrpF
import Derived.Test.YtfaagbmaekoogaaRowI
import Derived.Outline
namespace Go.Proofs.Ytfaagbmaekoogaa
open Go.RowKit

namespace Dn
theorem equalW_of {g : Int} {v w : List Int} (hv : Fit g v) (hw : Fit g w) : decide (EqualW g v w) = decide (TrivW g (v ++ Word.inv w)) := by
  refine decide_eq_decide.2 ⟨fun ⟨_, _, h3, h4⟩ => ⟨fit_append.2 ⟨hv, hw.inv, by rw [Word.inv_len]; exact h3⟩, h4⟩, fun ⟨h1, h2⟩ => ⟨hv, hw, ?_, h2⟩⟩
  have := (fit_append.1 h1).2.2
  rwa [Word.inv_len] at this
theorem equalW_big {g : Int} {v w : List Int} (h : 24 < v.length + w.length) : decide (EqualW g v w) = false := decide_eq_false fun x => by have := x.2.2.1; omega
theorem equalW_triv {g : Int} {v w : List Int} (hv : Fit g v) (hw : Fit g w) (h : v.length + w.length ≤ 24) : decide (EqualW g v w) = decide (Triv g (v ++ Word.inv w)) :=
  decide_eq_decide.2 ⟨fun x => x.2.2.2, fun x => ⟨hv, hw, h, x⟩⟩
theorem equalW_not1 {g : Int} {v w : List Int} (h : ¬ Fit g v) : decide (EqualW g v w) = false := decide_eq_false fun x => h x.1
theorem equalW_not2 {g : Int} {v w : List Int} (h : ¬ Fit g w) : decide (EqualW g v w) = false := decide_eq_false fun x => h x.2.1
theorem commW_eq (g : Int) (v w : List Int) : decide (CommW g v w) = decide (EqualW g (v ++ w) (w ++ v)) := by
  refine decide_eq_decide.2 ⟨fun ⟨h1, h2, h3, h4⟩ => ?_, fun ⟨h1, h2, h3, h4⟩ => ?_⟩
  · exact ⟨fit_append.2 ⟨h1, h2, by omega⟩, fit_append.2 ⟨h2, h1, by omega⟩, by rw [List.length_append, List.length_append]; omega, h4⟩
  · rw [List.length_append, List.length_append] at h3
    exact ⟨(fit_append.1 h1).1, (fit_append.1 h1).2.1, by omega, h4⟩
theorem commW_not1 {g : Int} {v w : List Int} (h : ¬ Fit g v) : decide (CommW g v w) = false := decide_eq_false fun x => h x.1
theorem commW_not2 {g : Int} {v w : List Int} (h : ¬ Fit g w) : decide (CommW g v w) = false := decide_eq_false fun x => h x.2.1
theorem commW_big {g : Int} {v w : List Int} (h : 24 < 2 * (v.length + w.length)) : decide (CommW g v w) = false := decide_eq_false fun x => by have := x.2.2.1; omega
theorem commW_triv {g : Int} {v w : List Int} (hv : Fit g v) (hw : Fit g w) (h : 2 * (v.length + w.length) ≤ 24) : decide (CommW g v w) = decide (Triv g ((v ++ w) ++ Word.inv (w ++ v))) :=
  decide_eq_decide.2 ⟨fun x => x.2.2.2, fun x => ⟨hv, hw, h, x⟩⟩
theorem homW_not {g : Int} {l : List Int} (h : ¬ Fit g l) : homW g l = [] := if_neg h
theorem homW_of {g : Int} {l : List Int} (h : Fit g l) : homW g l = (Word.sums l).take (2 * g).toNat := if_pos h
end Dn
theorem Fresh.take {w : World} {base : Nat} {t : TypeId} {a : Option Addr} {cs : List Value} (h : Fresh w base t a cs) (n : Nat) : Fresh w base t a (cs.take n) := by
  rcases h with rfl | ⟨g, o, all, rfl, hb, hk, hc⟩
  · exact Or.inl (by simp)
  · refine Or.inr ⟨g, o, all, rfl, hb, hk, fun i v hv => hc i v ?_⟩
    rw [List.getElem?_take] at hv
    split at hv
    · exact hv
    · cases hv
theorem gives_take {w w' : World} {a : Option Addr} {c n : Nat} {l : List Int} (hn : n ≤ l.length) (hc : l.length ≤ c) (hcm : c ≤ maxLen) (hf : Fresh w' w.heap.size 3 a (intCells l)) (hb : Below w.heap.size w w') : Gives w (l.take n) (.returned (.slice a n c)) w' := by
  refine ⟨a, c, by rw [List.length_take, Nat.min_eq_left hn], by rw [List.length_take]; omega, hcm, ?_, hb⟩
  rw [show intCells (l.take n) = (intCells l).take n from by simp [intCells, List.map_take]]
  exact hf.take n

set_option maxRecDepth 10000 in
set_option maxHeartbeats 1000000 in
theorem impl_HomologyOf (g : Int) (a : Option Addr) (c : Nat) (l : List Int) (w : World) (ha : RowAt w a (intCells l)) (hl : l.length ≤ 1048576) :
    Calls Try.prog 63 #[.int .i64 g, .slice a l.length c] w fun e w' => Gives w (Dn.homW g l) e w' := by
  have hcF := impl_isGroupWord g a c l w ha (by omega)
  by_cases hF : Dn.Fit g l
  · rw [decide_eq_true hF] at hcF
    rw [Dn.homW_of hF]
    have hcS := fun W (hb : Below w.heap.size w W) => impl_LetterSums a c l W (ha.below hb) hl
    rw [sums_of hF.2.1] at hcS
    have hsl := Word.sums_len l
    generalize hS : Word.sums l = S at *
    have HcF := Lib.hid hcF; have HcS := Lib.hid hcS; have Hsl := Lib.hid hsl
    rcases Dn.gr_cases hF.1 with rfl | rfl
    all_goals
      clear hF hcF ha hcS hS hsl
      go_enter Try.func63, Try.ntmps63
      go_wp2_with fail
      refine HcF.out.mono ?_
      rintro e w1 ⟨rfl, hb1⟩
      have Hb1 := Lib.hid hb1; clear hb1
      go_wp2_with fail
      refine (HcS.out w1 Hb1.out).mono ?_
      rintro e w2 ⟨sa, sc, rfl, hsc, hscm, hfs, hb2⟩
      have Hfs := Lib.hid (hfs.mono Hb1.out.size); have Hb2 := Lib.hid (Hb1.out.trans (hb2.mono Hb1.out.size))
      clear hfs hb2
      have k1 : 2 ≤ sc := by have := Hsl.out; omega
      have k2 : 4 ≤ sc := by have := Hsl.out; omega
      have k3 : (2 : Int) ≤ (sc : Int) := by omega
      have k4 : (4 : Int) ≤ (sc : Int) := by omega
      go_wp2
      go_ret
      exact gives_take (by rw [Hsl.out]; decide) hsc hscm Hfs.out Hb2.out
  · rw [decide_eq_false hF] at hcF
    rw [Dn.homW_not hF]
    have HcF := Lib.hid hcF
    clear hcF hF
    go_enter Try.func63, Try.ntmps63
    go_wp2_with fail
    refine HcF.out.mono ?_
    rintro e w1 ⟨rfl, hb1⟩
    go_wp2
    go_ret
    exact Gives.none hb1

set_option maxRecDepth 10000 in
set_option maxHeartbeats 1000000 in
theorem spec_HomologyOf (g : Int) (a : Option Addr) (c : Nat) (l : List Int) (w : World) (ha : RowAt w a (intCells l)) (hl : l.length ≤ 1048576) :
    Calls Try.prog 64 #[.int .i64 g, .slice a l.length c] w fun e w' => Gives w (Dn.homW g l) e w' := by
  have hcF := spec_l8Fits g a c l w ha hl
  by_cases hF : Dn.Fit g l
  · rw [decide_eq_true hF] at hcF
    rw [Dn.homW_of hF]
    have hcS := fun W (hb : Below w.heap.size w W) => spec_LetterSums a c l W (ha.below hb) hl
    rw [sums_of hF.2.1] at hcS
    have hsl := Word.sums_len l
    generalize hS : Word.sums l = S at *
    have HcF := Lib.hid hcF; have HcS := Lib.hid hcS; have Hsl := Lib.hid hsl
    rcases Dn.gr_cases hF.1 with rfl | rfl
    all_goals
      clear hF hcF ha hcS hS hsl
      go_enter Try.func64, Try.ntmps64
      go_wp2_with fail
      refine HcF.out.mono ?_
      rintro e w1 ⟨rfl, hb1⟩
      have Hb1 := Lib.hid hb1; clear hb1
      go_wp2_with fail
      refine (HcS.out w1 Hb1.out).mono ?_
      rintro e w2 ⟨sa, sc, rfl, hsc, hscm, hfs, hb2⟩
      have Hfs := Lib.hid (hfs.mono Hb1.out.size); have Hb2 := Lib.hid (Hb1.out.trans (hb2.mono Hb1.out.size))
      clear hfs hb2
      have k1 : 2 ≤ sc := by have := Hsl.out; omega
      have k2 : 4 ≤ sc := by have := Hsl.out; omega
      have k3 : (2 : Int) ≤ (sc : Int) := by omega
      have k4 : (4 : Int) ≤ (sc : Int) := by omega
      go_wp2
      go_ret
      exact gives_take (by rw [Hsl.out]; decide) hsc hscm Hfs.out Hb2.out
  · rw [decide_eq_false hF] at hcF
    rw [Dn.homW_not hF]
    have HcF := Lib.hid hcF
    clear hcF hF
    go_enter Try.func64, Try.ntmps64
    go_wp2_with fail
    refine HcF.out.mono ?_
    rintro e w1 ⟨rfl, hb1⟩
    go_wp2
    go_ret
    exact own_gives (by exact own_mono (own_made (w := w1) rfl) hb1.size) rfl (hb1.alloc hb1.size _)

set_option maxRecDepth 10000 in
set_option maxHeartbeats 1000000 in
theorem impl_AreEqualWords (g : Int) (a1 a2 : Option Addr) (c1 c2 : Nat) (v u : List Int) (w : World) (ha1 : RowAt w a1 (intCells v)) (ha2 : RowAt w a2 (intCells u)) (hl1 : v.length ≤ 1000000000) (hl2 : u.length ≤ 1000000000) :
    Calls Try.prog 54 #[.int .i64 g, .slice a1 v.length c1, .slice a2 u.length c2] w fun e w' => e = .returned (.bool (decide (Dn.EqualW g v u))) ∧ Below w.heap.size w w' := by
  have hcV := impl_isGroupWord g a1 c1 v w ha1 hl1
  have hcU := fun W (hb : Below w.heap.size w W) => impl_isGroupWord g a2 c2 u W (ha2.below hb) hl2
  by_cases hV : Dn.Fit g v
  · rw [decide_eq_true hV] at hcV
    by_cases hU : Dn.Fit g u
    · rw [decide_eq_true hU] at hcU
      rw [Dn.equalW_of hV hU]
      have hv24 := hV.2.1.2
      have hu24 := hU.2.1.2
      have hcI := fun W (hb : Below w.heap.size w W) => impl_InverseWord a2 c2 u W (ha2.below hb) (by omega)
      rw [inverse_of hU.2.1] at hcI
      have hil := Word.inv_len u
      generalize hUi : Word.inv u = ui at *
      have HcV := Lib.hid hcV; have HcU := Lib.hid hcU; have HcI := Lib.hid hcI; have Ha1 := Lib.hid ha1
      have hui24 : ui.length ≤ 24 := by omega
      clear hcV hcU hcI ha1 ha2 hV hU hUi hil
      go_enter Try.func54, Try.ntmps54
      go_wp2_with fail
      refine HcV.out.mono ?_
      rintro e w1 ⟨rfl, hb1⟩
      have Hb1 := Lib.hid hb1; clear hb1
      go_wp2_with fail
      refine (HcU.out w1 Hb1.out).mono ?_
      rintro e w2 ⟨rfl, hb2⟩
      have Hb2 := Lib.hid (Hb1.out.trans (hb2.mono Hb1.out.size)); clear hb2
      go_wp2_with fail
      refine (HcI.out w2 Hb2.out).mono ?_
      rintro e w3 ⟨ia, ic, rfl, hic, hicm, hfi, hb3⟩
      have Hb3 := Lib.hid (Hb2.out.trans (hb3.mono Hb2.out.size)); have Hfi := Lib.hid hfi
      clear hb3 hfi
      have hbE : Below w.heap.size w (w3.alloc (.cells #[.slice a1 v.length c1, .slice ia ui.length ic] 42)) := Hb3.out.alloc Hb3.out.size _
      have hbO : Below w3.heap.size w3 (w3.alloc (.cells #[.slice a1 v.length c1, .slice ia ui.length ic] 42)) := (Below.refl _ _).alloc (Nat.le_refl _) _
      have hcc := cat_at [(a1, c1, v), (ia, ic, ui)] (w3.alloc (.cells #[.slice a1 v.length c1, .slice ia ui.length ic] 42)) (some ⟨w3.heap.size, 0, none⟩) 2 (by simp only [List.map_cons, List.map_nil, Part.cell]; exact (Blk.new w3 42 _).row) rfl (by
        intro p hp
        simp only [List.mem_cons, List.not_mem_nil, or_false] at hp
        rcases hp with rfl | rfl
        · exact Ha1.out.below hbE
        · exact Hfi.out.row.below hbO) (by decide) (by simp [Part.len, Part.all]; omega)
      rw [show Part.all [(a1, c1, v), (ia, ic, ui)] = v ++ ui from by simp [Part.all]] at hcc
      have hvu : (v ++ ui).length ≤ 1000000000 := by rw [List.length_append]; omega
      generalize hX : v ++ ui = X at *
      have HX := Lib.hid hX
      have Hcc := Lib.hid hcc; have HbE := Lib.hid hbE
      clear hcc hbE hbO hX
      go_wp2_with fail
      refine Hcc.out.mono ?_
      rintro e w4 ⟨xa, xc, rfl, hxc, hxcm, hfx, hb4⟩
      have Hfx := Lib.hid hfx; have Hb4 := Lib.hid (HbE.out.trans (hb4.mono HbE.out.size))
      clear hfx hb4
      have hcT := impl_IsTrivialWord g xa xc X w4 Hfx.out.row hvu
      generalize hT : decide (Dn.TrivW g X) = T at *
      have HcT := Lib.hid hcT; have HT := Lib.hid hT
      clear hcT hT
      go_wp2_with fail
      refine HcT.out.mono ?_
      rintro e w5 ⟨rfl, hb5⟩
      have Hb5 := Lib.hid (Hb4.out.trans (hb5.mono Hb4.out.size)); clear hb5
      go_wp2
      go_ret
      exact ⟨by rw [HX.out, HT.out]; rfl, Hb5.out⟩
    · rw [decide_eq_false hU] at hcU
      rw [Dn.equalW_not2 hU]
      have HcV := Lib.hid hcV; have HcU := Lib.hid hcU
      clear hcV hcU hV hU
      go_enter Try.func54, Try.ntmps54
      go_wp2_with fail
      refine HcV.out.mono ?_
      rintro e w1 ⟨rfl, hb1⟩
      have Hb1 := Lib.hid hb1; clear hb1
      go_wp2_with fail
      refine (HcU.out w1 Hb1.out).mono ?_
      rintro e w2 ⟨rfl, hb2⟩
      have Hb2 := Lib.hid (Hb1.out.trans (hb2.mono Hb1.out.size)); clear hb2
      go_wp2
      go_ret
      exact ⟨rfl, Hb2.out⟩
  · rw [decide_eq_false hV] at hcV
    rw [Dn.equalW_not1 hV]
    have HcV := Lib.hid hcV
    clear hcV hcU hV
    go_enter Try.func54, Try.ntmps54
    go_wp2_with fail
    refine HcV.out.mono ?_
    rintro e w1 ⟨rfl, hb1⟩
    go_wp2
    go_ret
    exact ⟨rfl, hb1⟩

set_option maxRecDepth 10000 in
set_option maxHeartbeats 1000000 in
theorem impl_CommuteIn (g : Int) (a1 a2 : Option Addr) (c1 c2 : Nat) (v u : List Int) (w : World) (ha1 : RowAt w a1 (intCells v)) (ha2 : RowAt w a2 (intCells u)) (hl1 : v.length ≤ 1048576) (hl2 : u.length ≤ 1048576) :
    Calls Try.prog 56 #[.int .i64 g, .slice a1 v.length c1, .slice a2 u.length c2] w fun e w' => e = .returned (.bool (decide (Dn.CommW g v u))) ∧ Below w.heap.size w w' := by
  rw [Dn.commW_eq]
  have Ha1 := Lib.hid ha1; have Ha2 := Lib.hid ha2
  clear ha1 ha2
  have hbE : Below w.heap.size w (w.alloc (.cells #[.slice a1 v.length c1, .slice a2 u.length c2] 42)) := (Below.refl _ _).alloc (Nat.le_refl _) _
  have hcc := cat_at [(a1, c1, v), (a2, c2, u)] (w.alloc (.cells #[.slice a1 v.length c1, .slice a2 u.length c2] 42)) (some ⟨w.heap.size, 0, none⟩) 2 (by simp only [List.map_cons, List.map_nil, Part.cell]; exact (Blk.new w 42 _).row) rfl (by
    intro p hp
    simp only [List.mem_cons, List.not_mem_nil, or_false] at hp
    rcases hp with rfl | rfl
    · exact Ha1.out.below hbE
    · exact Ha2.out.below hbE) (by decide) (by simp [Part.len, Part.all]; omega)
  rw [show Part.all [(a1, c1, v), (a2, c2, u)] = v ++ u from by simp [Part.all]] at hcc
  have hx1 : (v ++ u).length ≤ 1000000000 := by rw [List.length_append]; omega
  have hx2 : (u ++ v).length ≤ 1000000000 := by rw [List.length_append]; omega
  have hcc2 := fun (W : World) (hW : Below w.heap.size w W) => (show Calls Try.prog 81 #[.slice (some ⟨W.heap.size, 0, none⟩) 2 2] (W.alloc (.cells #[.slice a2 u.length c2, .slice a1 v.length c1] 42)) (fun e w' => Gives W (u ++ v) e w') from by
    have hbF : Below w.heap.size w (W.alloc (.cells #[.slice a2 u.length c2, .slice a1 v.length c1] 42)) := hW.alloc hW.size _
    have h := cat_at [(a2, c2, u), (a1, c1, v)] (W.alloc (.cells #[.slice a2 u.length c2, .slice a1 v.length c1] 42)) (some ⟨W.heap.size, 0, none⟩) 2 (by simp only [List.map_cons, List.map_nil, Part.cell]; exact (Blk.new W 42 _).row) rfl (by
      intro p hp
      simp only [List.mem_cons, List.not_mem_nil, or_false] at hp
      rcases hp with rfl | rfl
      · exact Ha2.out.below hbF
      · exact Ha1.out.below hbF) (by decide) (by simp [Part.len, Part.all]; omega)
    rw [show Part.all [(a2, c2, u), (a1, c1, v)] = u ++ v from by simp [Part.all]] at h
    exact h.mono fun e w' hg => hg.later ((Below.refl _ _).alloc (Nat.le_refl _) _))
  generalize hX : v ++ u = X at *
  generalize hY : u ++ v = Y at *
  have Hcc := Lib.hid hcc; have HbE := Lib.hid hbE; have Hcc2 := Lib.hid hcc2
  clear hcc hbE hX hY hcc2
  go_enter Try.func56, Try.ntmps56
  go_wp2_with fail
  refine Hcc.out.mono ?_
  rintro e w4 ⟨xa, xc, rfl, hxc, hxcm, hfx, hb4⟩
  have Hfx := Lib.hid hfx; have Hb4 := Lib.hid (HbE.out.trans (hb4.mono HbE.out.size))
  clear hfx hb4
  go_wp2_with fail
  refine (Hcc2.out w4 Hb4.out).mono ?_
  rintro e w5 ⟨ya, yc, rfl, hyc, hycm, hfy, hb5⟩
  have Hfy := Lib.hid hfy; have Hfx5 := Lib.hid (Hfx.out.row.below hb5); have Hb5 := Lib.hid (Hb4.out.trans (hb5.mono Hb4.out.size))
  clear hfy hb5
  have hcA := impl_AreEqualWords g xa ya xc yc X Y w5 Hfx5.out Hfy.out.row hx1 hx2
  generalize hA : decide (Dn.EqualW g X Y) = A at *
  have HcA := Lib.hid hcA; have HA := Lib.hid hA
  clear hcA hA
  go_wp2_with fail
  refine HcA.out.mono ?_
  rintro e w6 ⟨rfl, hb6⟩
  have Hb6 := Lib.hid (Hb5.out.trans (hb6.mono Hb5.out.size)); clear hb6
  go_wp2
  go_ret
  exact ⟨by rw [HA.out]; rfl, Hb6.out⟩

/-- append of a row of integers to a row of the call's own. -/
theorem append_rowI {ops : Array Oper} {rest : List Oper} {o : Oper} {a : Act} {Q : Exit → Act → World → Prop} {W : World} (hgd : o.guard = none) (s x : Operand)
    (ho : o.op = .call { callee := .builtin .append, args := #[s, x], argTypes := #[42, 42] })
    (w : World) (N : Nat) (l m : List Int) (ov : Value) (hs : a.eval s = ov) (h : RowI w N W ov l) (ad : Option Addr) (c : Nat) (hx : a.eval x = .slice ad m.length c) (hr : RowAt W ad (intCells m)) (hN : N ≤ W.heap.size) (hlen : l.length + m.length ≤ 4194304) (r : List Int) (hlm : l ++ m = r)
    (k : ∀ av cv w', RowI w N w' (.slice av r.length cv) r → wpList Try.prog ops Q rest (a.put o.dst (.slice av r.length cv)) w') : wpList Try.prog ops Q (o :: rest) a W := by
  subst hlm
  obtain ⟨i0, hi0, hz0, hz1, hz2⟩ := info_int_parts
  refine append_row hgd s x 42 ho N 3 i0 _ 8 Try.underlying42 hi0 hz0 hz1 hz2 (by rfl) ov l.length (intCells l) hs h.1 ad m.length c (intCells m) hx hr (intCells_len m) (intCells_one m) (by unfold maxLen; omega) (by omega) hN ?_
  intro v' w' hown hg
  have hown' : w'.ownsRow N 3 1 v' (l ++ m).length (intCells (l ++ m)) := by
    rw [List.length_append, show intCells (l ++ m) = intCells l ++ intCells m from by simp [intCells]]; exact hown
  obtain ⟨av, cv, rfl⟩ := own_len hown'
  exact k av cv w' ⟨hown', h.2.grown hg hN (fun k hk => (h.1.lt k hk).1)⟩

set_option maxRecDepth 10000 in
set_option maxHeartbeats 2000000 in
theorem spec_AreEqualWords (g : Int) (a1 a2 : Option Addr) (c1 c2 : Nat) (v u : List Int) (w : World) (ha1 : RowAt w a1 (intCells v)) (ha2 : RowAt w a2 (intCells u)) (hl1 : v.length ≤ 1048576) (hl2 : u.length ≤ 1048576) :
    Calls Try.prog 55 #[.int .i64 g, .slice a1 v.length c1, .slice a2 u.length c2] w fun e w' => e = .returned (.bool (decide (Dn.EqualW g v u))) ∧ Below w.heap.size w w' := by
  have hcV := spec_l8Fits g a1 c1 v w ha1 hl1
  have hcU := fun W (hb : Below w.heap.size w W) => spec_l8Fits g a2 c2 u W (ha2.below hb) hl2
  have k1 : (v.length : Int) + (u.length : Int) ≤ 2097152 := by omega
  have k0 : (0 : Int) ≤ (v.length : Int) + (u.length : Int) := by omega
  by_cases hV : Dn.Fit g v
  · rw [decide_eq_true hV] at hcV
    by_cases hU : Dn.Fit g u
    · rw [decide_eq_true hU] at hcU
      by_cases h24 : v.length + u.length ≤ 24
      · rw [Dn.equalW_triv hV hU h24]
        have hv24 := hV.2.1.2
        have hu24 := hU.2.1.2
        have hg := hV.1
        have dsum : decide ((24 : Int) < (v.length : Int) + (u.length : Int)) = false := decide_eq_false (by omega)
        have hlet : ∀ x ∈ v ++ Word.inv u, Dn.Let g x := fun x hx => by
          rcases List.mem_append.1 hx with h | h
          · exact hV.lets x h
          · exact hU.inv.lets x h
        have hcI := fun W (hb : Below w.heap.size w W) => spec_l2Inverse a2 c2 u W (ha2.below hb) (by omega) hU.2.1.1
        have hil := Word.inv_len u
        generalize hUi : Word.inv u = ui at *
        have HcV := Lib.hid hcV; have HcU := Lib.hid hcU; have HcI := Lib.hid hcI; have Ha1 := Lib.hid ha1; have Hlet := Lib.hid hlet; have Hg := Lib.hid hg
        have hui24 : ui.length ≤ 24 := by omega
        clear hcV hcU hcI ha1 ha2 hV hU hUi hil hlet hg
        go_enter Try.func55, Try.ntmps55
        go_wp2_with fail
        refine HcV.out.mono ?_
        rintro e w1 ⟨rfl, hb1⟩
        have Hb1 := Lib.hid hb1; clear hb1
        go_wp2_with fail
        refine (HcU.out w1 Hb1.out).mono ?_
        rintro e w2 ⟨rfl, hb2⟩
        have Hb2 := Lib.hid (Hb1.out.trans (hb2.mono Hb1.out.size)); clear hb2
        have HR0 := Lib.hid (RowI.made (w := w) (N := w.heap.size) Hb2.out Hb2.out.size)
        have HrV := Lib.hid (Ha1.out.below HR0.out.2)
        go_wp2_with (at_builtin; refine append_rowI rfl (.tmp 26) (.tmp 27) rfl w w.heap.size [] v _ rfl HR0.out a1 _ rfl HrV.out HR0.out.2.size (by simp; omega) v rfl ?_; intro ra rc w3 hr1)
        have HR1 := Lib.hid hr1; clear hr1
        go_wp2_with fail
        refine (HcI.out w3 HR1.out.2).mono ?_
        rintro e w4 ⟨ia, ic, rfl, hic, hicm, hfi, hb4⟩
        have HR2 := Lib.hid (HR1.out.below HR1.out.2.size hb4); have Hfi := Lib.hid hfi.row
        clear hb4 hfi
        have hlx : (v ++ ui).length ≤ 1000 := by rw [List.length_append]; omega
        generalize hX : v ++ ui = X at *
        have HX := Lib.hid hX
        clear hX
        go_wp2_with (at_builtin; refine append_rowI rfl (.tmp 28) (.tmp 30) rfl w w.heap.size v ui _ rfl HR2.out ia _ rfl Hfi.out HR2.out.2.size (by omega) X HX.out ?_; intro xa xc w5 hr3)
        have HR3 := Lib.hid hr3
        clear hr3
        obtain ⟨_, _, he, hrowX, _⟩ := (Gives.form (w := w) HR3.out.gives)
        cases he
        have hcT := spec_l8Trivial g xa xc X w5 hrowX hlx Hg.out Hlet.out
        generalize hT : decide (Dn.Triv g X) = T at *
        have HcT := Lib.hid hcT; have HT := Lib.hid hT
        clear hcT hT hrowX
        go_wp2_with fail
        refine HcT.out.mono ?_
        rintro e w6 ⟨rfl, hb6⟩
        have Hb6 := Lib.hid (HR3.out.2.trans (hb6.mono HR3.out.2.size)); clear hb6
        go_wp2
        go_ret
        exact ⟨by rw [HX.out, HT.out]; rfl, Hb6.out⟩
      · rw [Dn.equalW_big (by omega)]
        have dsum : decide ((24 : Int) < (v.length : Int) + (u.length : Int)) = true := decide_eq_true (by omega)
        have HcV := Lib.hid hcV; have HcU := Lib.hid hcU
        clear hcV hcU hV hU
        go_enter Try.func55, Try.ntmps55
        go_wp2_with fail
        refine HcV.out.mono ?_
        rintro e w1 ⟨rfl, hb1⟩
        have Hb1 := Lib.hid hb1; clear hb1
        go_wp2_with fail
        refine (HcU.out w1 Hb1.out).mono ?_
        rintro e w2 ⟨rfl, hb2⟩
        have Hb2 := Lib.hid (Hb1.out.trans (hb2.mono Hb1.out.size)); clear hb2
        go_wp2
        go_ret
        exact ⟨rfl, Hb2.out⟩
    · rw [decide_eq_false hU] at hcU
      rw [Dn.equalW_not2 hU]
      have HcV := Lib.hid hcV; have HcU := Lib.hid hcU
      clear hcV hcU hV hU
      go_enter Try.func55, Try.ntmps55
      go_wp2_with fail
      refine HcV.out.mono ?_
      rintro e w1 ⟨rfl, hb1⟩
      have Hb1 := Lib.hid hb1; clear hb1
      go_wp2_with fail
      refine (HcU.out w1 Hb1.out).mono ?_
      rintro e w2 ⟨rfl, hb2⟩
      have Hb2 := Lib.hid (Hb1.out.trans (hb2.mono Hb1.out.size)); clear hb2
      go_wp2
      go_ret
      exact ⟨rfl, Hb2.out⟩
  · rw [decide_eq_false hV] at hcV
    rw [Dn.equalW_not1 hV]
    have HcV := Lib.hid hcV
    clear hcV hcU hV
    go_enter Try.func55, Try.ntmps55
    go_wp2_with fail
    refine HcV.out.mono ?_
    rintro e w1 ⟨rfl, hb1⟩
    go_wp2
    go_ret
    exact ⟨rfl, hb1⟩

set_option maxRecDepth 10000 in
set_option maxHeartbeats 2000000 in
theorem spec_CommuteIn (g : Int) (a1 a2 : Option Addr) (c1 c2 : Nat) (v u : List Int) (w : World) (ha1 : RowAt w a1 (intCells v)) (ha2 : RowAt w a2 (intCells u)) (hl1 : v.length ≤ 1048576) (hl2 : u.length ≤ 1048576) :
    Calls Try.prog 57 #[.int .i64 g, .slice a1 v.length c1, .slice a2 u.length c2] w fun e w' => e = .returned (.bool (decide (Dn.CommW g v u))) ∧ Below w.heap.size w w' := by
  have hcV := spec_l8Fits g a1 c1 v w ha1 hl1
  have hcU := fun W (hb : Below w.heap.size w W) => spec_l8Fits g a2 c2 u W (ha2.below hb) hl2
  have k1 : (v.length : Int) + (u.length : Int) ≤ 2097152 := by omega
  have k0 : (0 : Int) ≤ (v.length : Int) + (u.length : Int) := by omega
  by_cases hV : Dn.Fit g v
  · rw [decide_eq_true hV] at hcV
    by_cases hU : Dn.Fit g u
    · rw [decide_eq_true hU] at hcU
      by_cases h24 : 2 * (v.length + u.length) ≤ 24
      · rw [Dn.commW_triv hV hU h24]
        have hv24 := hV.2.1.2
        have hu24 := hU.2.1.2
        have hg := hV.1
        have dsum : decide ((24 : Int) < 2 * ((v.length : Int) + (u.length : Int))) = false := decide_eq_false (by omega)
        have hlx : ((v ++ u) ++ Word.inv (u ++ v)).length ≤ 1000 := by rw [List.length_append, Word.inv_len, List.length_append, List.length_append]; omega
        have hUV : Dn.Fit g (u ++ v) := Dn.fit_append.2 ⟨hU, hV, by omega⟩
        have hlet : ∀ x ∈ (v ++ u) ++ Word.inv (u ++ v), Dn.Let g x := fun x hx => by
          rcases List.mem_append.1 hx with h | h
          · rcases List.mem_append.1 h with h | h
            · exact hV.lets x h
            · exact hU.lets x h
          · exact hUV.inv.lets x h
        have hcI := fun a c W (ha : RowAt W a (intCells (u ++ v))) => spec_l2Inverse a c (u ++ v) W ha (by have := hUV.2.1.2; omega) hUV.2.1.1
        have hil := Word.inv_len (u ++ v)
        have huvl : (u ++ v).length ≤ 24 := hUV.2.1.2
        have hvul : (v ++ u).length ≤ 24 := by rw [List.length_append]; omega
        have HcV := Lib.hid hcV; have HcU := Lib.hid hcU; have HcI := Lib.hid hcI; have Ha1 := Lib.hid ha1; have Ha2 := Lib.hid ha2; have Hlet := Lib.hid hlet; have Hg := Lib.hid hg
        have hui24 : (Word.inv (u ++ v)).length ≤ 24 := by omega
        clear hcV hcU hcI ha1 ha2 hV hU hUV hil hlet hg
        go_enter Try.func57, Try.ntmps57
        go_wp2_with fail
        refine HcV.out.mono ?_
        rintro e w1 ⟨rfl, hb1⟩
        have Hb1 := Lib.hid hb1; clear hb1
        go_wp2_with fail
        refine (HcU.out w1 Hb1.out).mono ?_
        rintro e w2 ⟨rfl, hb2⟩
        have Hb2 := Lib.hid (Hb1.out.trans (hb2.mono Hb1.out.size)); clear hb2
        have HR0 := Lib.hid (RowI.made (w := w) (N := w.heap.size) Hb2.out Hb2.out.size)
        have HrV := Lib.hid (Ha1.out.below HR0.out.2)
        generalize hX : v ++ u = X at *
        generalize hY : u ++ v = Y at *
        have HX := Lib.hid hX; have HY := Lib.hid hY
        clear hX hY
        go_wp2_with (first
          | (at_builtin; refine append_rowI rfl (.tmp 28) (.tmp 29) rfl w w.heap.size [] v _ rfl HR0.out a1 _ rfl HrV.out HR0.out.2.size (by simp; omega) v rfl ?_; intro ra rc w3 hr1; have HR1 := Lib.hid hr1; clear hr1; have HrU := Lib.hid (Ha2.out.below HR1.out.2))
          | (at_builtin; refine append_rowI rfl (.tmp 30) (.tmp 31) rfl w w.heap.size v u _ rfl HR1.out a2 _ rfl HrU.out HR1.out.2.size (by omega) X HX.out ?_; intro pa pc w4 hr2; have HR2 := Lib.hid hr2; clear hr2; have HS0 := Lib.hid (RowI.made (w := w4) (N := w4.heap.size) (Below.refl _ _) (Nat.le_refl _)); have HrU2 := Lib.hid ((Ha2.out.below HR2.out.2).below HS0.out.2))
          | (at_builtin; refine append_rowI rfl (.tmp 33) (.tmp 34) rfl w4 w4.heap.size [] u _ rfl HS0.out a2 _ rfl HrU2.out HS0.out.2.size (by simp; omega) u rfl ?_; intro qa qc w5 hs1; have HS1 := Lib.hid hs1; clear hs1; have HrV2 := Lib.hid ((Ha1.out.below HR2.out.2).below HS1.out.2))
          | (at_builtin; refine append_rowI rfl (.tmp 35) (.tmp 36) rfl w4 w4.heap.size u v _ rfl HS1.out a1 _ rfl HrV2.out HS1.out.2.size (by omega) Y HY.out ?_; intro ya yc w6 hs2))
        have HS2 := Lib.hid hs2
        clear hs2
        obtain ⟨_, _, he, hrowY, _⟩ := (Gives.form (w := w4) HS2.out.gives)
        cases he
        have hcI := HcI.out _ yc w6 hrowY
        have HcI2 := Lib.hid hcI
        clear hcI
        go_wp2_with fail
        refine HcI2.out.mono ?_
        rintro e w7 ⟨ia, ic, rfl, hic, hicm, hfi, hb7⟩
        have HR3 := Lib.hid ((HR2.out.below HR2.out.2.size HS2.out.2).below (Nat.le_trans HR2.out.2.size HS2.out.2.size) hb7); have Hfi := Lib.hid hfi.row
        clear hb7 hfi hrowY
        generalize hV : X ++ Word.inv Y = V at *
        have HV := Lib.hid hV
        clear hV
        go_wp2_with (at_builtin; refine append_rowI rfl (.tmp 39) (.tmp 41) rfl w w.heap.size X (Word.inv Y) _ rfl HR3.out ia _ rfl Hfi.out HR3.out.2.size (by omega) V HV.out ?_; intro xa xc w8 hr4)
        have HR4 := Lib.hid hr4
        clear hr4
        obtain ⟨_, _, he, hrowX, _⟩ := (Gives.form (w := w) HR4.out.gives)
        cases he
        have hcT := spec_l8Trivial g xa xc V w8 hrowX hlx Hg.out Hlet.out
        generalize hT : decide (Dn.Triv g V) = T at *
        have HcT := Lib.hid hcT; have HT := Lib.hid hT
        clear hcT hT hrowX
        go_wp2_with fail
        refine HcT.out.mono ?_
        rintro e w9 ⟨rfl, hb9⟩
        have Hb9 := Lib.hid (HR4.out.2.trans (hb9.mono HR4.out.2.size)); clear hb9
        go_wp2
        go_ret
        exact ⟨by rw [HX.out, HY.out, HV.out, HT.out]; rfl, Hb9.out⟩
      · rw [Dn.commW_big (by omega)]
        have dsum : decide ((24 : Int) < 2 * ((v.length : Int) + (u.length : Int))) = true := decide_eq_true (by omega)
        have HcV := Lib.hid hcV; have HcU := Lib.hid hcU
        clear hcV hcU hV hU
        go_enter Try.func57, Try.ntmps57
        go_wp2_with fail
        refine HcV.out.mono ?_
        rintro e w1 ⟨rfl, hb1⟩
        have Hb1 := Lib.hid hb1; clear hb1
        go_wp2_with fail
        refine (HcU.out w1 Hb1.out).mono ?_
        rintro e w2 ⟨rfl, hb2⟩
        have Hb2 := Lib.hid (Hb1.out.trans (hb2.mono Hb1.out.size)); clear hb2
        go_wp2
        go_ret
        exact ⟨rfl, Hb2.out⟩
    · rw [decide_eq_false hU] at hcU
      rw [Dn.commW_not2 hU]
      have HcV := Lib.hid hcV; have HcU := Lib.hid hcU
      clear hcV hcU hV hU
      go_enter Try.func57, Try.ntmps57
      go_wp2_with fail
      refine HcV.out.mono ?_
      rintro e w1 ⟨rfl, hb1⟩
      have Hb1 := Lib.hid hb1; clear hb1
      go_wp2_with fail
      refine (HcU.out w1 Hb1.out).mono ?_
      rintro e w2 ⟨rfl, hb2⟩
      have Hb2 := Lib.hid (Hb1.out.trans (hb2.mono Hb1.out.size)); clear hb2
      go_wp2
      go_ret
      exact ⟨rfl, Hb2.out⟩
  · rw [decide_eq_false hV] at hcV
    rw [Dn.commW_not1 hV]
    have HcV := Lib.hid hcV
    clear hcV hcU hV
    go_enter Try.func57, Try.ntmps57
    go_wp2_with fail
    refine HcV.out.mono ?_
    rintro e w1 ⟨rfl, hb1⟩
    go_wp2
    go_ret
    exact ⟨rfl, hb1⟩
end Go.Proofs.Ytfaagbmaekoogaa
