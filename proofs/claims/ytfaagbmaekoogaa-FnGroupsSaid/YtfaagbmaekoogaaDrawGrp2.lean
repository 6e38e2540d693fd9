/-
  The walks of the model's draws for the law on groups.
-/
import Derived.Test.YtfaagbmaekoogaaBase
import Derived.Test.YtfaagbmaekoogaaSlice
import Derived.Test.YtfaagbmaekoogaaInts
import Derived.Test.YtfaagbmaekoogaaOwn
import Derived.Test.YtfaagbmaekoogaaAppend
import Derived.Test.YtfaagbmaekoogaaStepRow
import Derived.Test.YtfaagbmaekoogaaWord
import Derived.Test.YtfaagbmaekoogaaTurn
import Derived.Test.YtfaagbmaekoogaaInvert
import Derived.Test.YtfaagbmaekoogaaDraw
import Derived.Test.YtfaagbmaekoogaaDrawWord
import Derived.Test.YtfaagbmaekoogaaAm
import Derived.Test.YtfaagbmaekoogaaGrpA
import Derived.Test.YtfaagbmaekoogaaDrawGrp
import Derived.Deep.RegionLaw
namespace Go.Proofs.Ytfaagbmaekoogaa
open Go.RowKit

/-- append of a row to a row of the call's own, and where it lies then, as a step of a region that draws. -/
theorem step_append_rowN {ops : Array Oper} {o : Oper} {a : Act} {W : World} {K : Act → World → Prop} {Q : Exit → Act → World → Prop} {E : Prop} (hgd : o.guard = none) (s x : Operand)
    (ho : o.op = .call { callee := .builtin .append, args := #[s, x], argTypes := #[42, 42] })
    (N : Nat) (l m : List Int) (n n2 : Nat) (ov : Value) (hs : a.eval s = ov) (h : W.ownsRow N 3 1 ov n (intCells l)) (hn : l.length = n) (ad : Option Addr) (c : Nat) (hx : a.eval x = .slice ad n2 c) (hn2 : m.length = n2) (hr : RowAt W ad (intCells m)) (hN : N ≤ W.heap.size) (hlen : l.length + m.length ≤ 4194304) (r : List Int) (hlm : l ++ m = r)
    (k : ∀ av cv w', w'.ownsRow N 3 1 (.slice av r.length cv) r.length (intCells r) → W.grownBy w' ov.ownBlock → K (a.put o.dst (.slice av r.length cv)) w') :
    if Region.wanted o (yielded ops a.tmps) = true then Oper.wp Try.prog o a W K Q else E := by
  subst hlm; subst hn; subst hn2
  obtain ⟨i0, hi0, hz0, hz1, hz2⟩ := info_int_parts
  have hap : intCells (l ++ m) = intCells l ++ intCells m := by simp [intCells]
  refine step_append_row hgd s x 42 ho N 3 i0 _ 8 Try.underlying42 hi0 hz0 hz1 hz2 (by rfl) ov l.length (intCells l) hs h ad m.length c (intCells m) hx hr (intCells_len m) (intCells_one m) (by unfold maxLen; omega) (by omega) hN ?_
  intro v' w' hown hg
  have hown' : w'.ownsRow N 3 1 v' (l ++ m).length (intCells (l ++ m)) := by rw [List.length_append, hap]; exact hown
  obtain ⟨av, cv, rfl⟩ := own_len hown'
  exact k av cv w' hown' hg

theorem cut_rowZ {w : World} {b o c m : Nat} {l : List Int} (h : RowAt w (some ⟨b, o, none⟩) (intCells l)) (hm : m ≤ l.length) (hc : l.length ≤ c) : RowAt w (if c = m then some ⟨b, o, none⟩ else some ⟨b, o + m, none⟩) (intCells (l.drop m)) := by
  by_cases e : c = m
  · exact Or.inl (by rw [List.drop_eq_nil_of_le (by omega)]; rfl)
  · rw [if_neg e]; exact row_drop h
/-- A number and a word, in memory of the call's own. -/
def GaveGW (w : World) (e : Ending) (w' : World) : Prop := ∃ (G : Int) (a : Option Addr) (c : Nat) (l : List Int), e = .returned (.tuple #[.int .i64 G, .slice a l.length c]) ∧ -10 ≤ G ∧ G ≤ 10 ∧ RowAt w' a (intCells l) ∧ l.length ≤ 100 ∧ l.length ≤ c ∧ Below w.heap.size w w'
set_option maxRecDepth 10000 in
set_option maxHeartbeats 1000000 in
theorem drawIsTrivialWord (a : Option Addr) (c : Nat) (l : List Int) (w : World) (ha : RowAt w a (byteCells l)) (hb : ∀ x ∈ l, 0 ≤ x ∧ x ≤ 255) (hsz : l.length ≤ 1048576) :
    Calls Try.prog 46 #[.slice a l.length c] w (GaveGW w) := by
  go_enter Try.func46, Try.ntmps46
  go_wp2_with fail
  refine (l1New a c l w ha hb hsz).mono ?_
  rintro e w1 ⟨g, rfl, hg, hc1, hb1⟩
  go_wp2_with fail
  refine (l8Draw g w1 hc1).mono ?_
  rintro e w2 ⟨G, ga, gc, gl, rfl, h1, h2, h3, h4, h5, h6⟩
  have Hfin := Lib.hid (show GaveGW w (.returned (.tuple #[.int .i64 G, .slice ga gl.length gc])) w2 from ⟨G, ga, gc, gl, rfl, h1, h2, h3, h4, h5, below_of_only hb1 h6.2 hg⟩)
  clear h3 h6
  go_wp2
  go_ret2
  exact Hfin.out

set_option maxRecDepth 10000 in
set_option maxHeartbeats 1000000 in
theorem drawRelator (a : Option Addr) (c : Nat) (l : List Int) (w : World) (ha : RowAt w a (byteCells l)) (hb : ∀ x ∈ l, 0 ≤ x ∧ x ≤ 255) (hsz : l.length ≤ 1048576) :
    Calls Try.prog 51 #[.slice a l.length c] w fun e w' => (∃ n : Int, e = .returned (.int .i64 n) ∧ -1 ≤ n ∧ n ≤ 3) ∧ Below w.heap.size w w' := by
  go_enter Try.func51, Try.ntmps51
  go_wp2_with fail
  refine (l1New a c l w ha hb hsz).mono ?_
  rintro e w1 ⟨g, rfl, hg, hc1, hb1⟩
  go_wp2_with fail
  refine (l1Below g 5 w1 hc1 (by omega) (by omega)).mono ?_
  rintro e w2 ⟨⟨x, rfl, hx0, hx1⟩, hc2, hg2⟩
  have Hb := Lib.hid (below_of_only hb1 hg2 hg)
  clear hc2 hg2 hb1
  go_wp2
  go_ret
  exact ⟨⟨_, rfl, by omega, by omega⟩, Hb.out⟩

/-- A number and two words, in memory of the call's own. -/
def GaveG2 (w : World) (e : Ending) (w' : World) : Prop := ∃ (G : Int) (a : Option Addr) (c : Nat) (l : List Int) (a' : Option Addr) (c' : Nat) (l' : List Int), e = .returned (.tuple #[.int .i64 G, .slice a l.length c, .slice a' l'.length c']) ∧ -10 ≤ G ∧ G ≤ 10 ∧ RowAt w' a (intCells l) ∧ l.length ≤ 100 ∧ l.length ≤ c ∧ RowAt w' a' (intCells l') ∧ l'.length ≤ 100 ∧ l'.length ≤ c' ∧ Below w.heap.size w w'
set_option maxRecDepth 100000 in
set_option maxHeartbeats 8000000 in
theorem l8Two (a : Option Addr) (c : Nat) (l : List Int) (w : World) (ha : RowAt w a (byteCells l)) (hb : ∀ x ∈ l, 0 ≤ x ∧ x ≤ 255) (hsz : l.length ≤ 1048576) :
    Calls Try.prog 124 #[.slice a l.length c] w (GaveG2 w) := by
  go_enter Try.func124, Try.ntmps124
  go_wp2_with fail
  refine (l1New a c l w ha hb hsz).mono ?_
  rintro e w1 ⟨g, rfl, hg, hc1, hb1⟩
  have hgw := hc1.lt
  have Hcur1 := Lib.hid (show CurG w1 g w1 from ⟨hc1, World.grownBy.refl _ _⟩); have Hb1 := Lib.hid hb1; have Hg := Lib.hid hg
  clear ha hb hsz hc1 hb1 hg
  go_wp2_with fail
  refine (l1Below g 2 w1 Hcur1.out.1 (by omega) (by omega)).mono ?_
  rintro e w2 ⟨⟨G0, rfl, hG0, hG1⟩, hc2, hg2⟩
  have Hcur2 := Lib.hid (Hcur1.out.drawn hc2 hg2)
  have hGr : Dn.Gr (1 + G0) := by unfold Dn.Gr; omega
  have hK0 : 1 ≤ 1 + G0 := by omega
  have hK1 : 1 + G0 ≤ 2 := by omega
  clear hG0 hG1 hc2 hg2
  go_wp2_with fail
  generalize 1 + G0 = K at *
  refine (l2Draw g 6 (2 * K) 6 w2 Hcur2.out.1 (by omega) (by omega) (by omega) rfl).mono ?_
  rintro e w3 ⟨vv, v, rfl, hownv, hv6, hvL, hc3, hg3⟩
  obtain ⟨va, vc, rfl⟩ := own_len hownv
  have hgv : g < w2.heap.size := Nat.lt_of_lt_of_le hgw Hcur2.out.size
  have Hv3 := Lib.hid hownv; have Hcur3 := Lib.hid (Hcur2.out.drawn hc3 hg3)
  have Hvlt := Lib.hid (show ∀ k, (Value.slice va v.length vc).ownBlock = some k → k < w3.heap.size from fun k hk => (hownv.lt k hk).2)
  have hvc := own_cap hownv
  clear hownv hvL hc3 hg3
  have Hm3 := Lib.hid (own_made (w := w3) rfl)
  have HvA := Lib.hid (Hv3.out.alloc (.cells #[] 3)); have HcA := Lib.hid (Hcur3.out.alloc (.cells #[] 3))
  go_wp2_with (at_builtin; refine append_rowN rfl (.tmp 19) (.tmp 20) rfl w3.heap.size [] v _ rfl Hm3.out va _ rfl (own_at HvA.out) (by simp) (by simp; omega) v rfl ?_; intro wa wc w4 hown4 hg4 hl4; have Hown4 := Lib.hid hown4; have Hg4 := Lib.hid hg4; clear hown4 hg4 hl4)
  have hown4 := Hown4.out; have hg4 := Hg4.out
  have hr4 : ∀ k, (Value.slice (some ⟨w3.heap.size, 0, none⟩) 0 0).ownBlock = some k → k = w3.heap.size := fun k hk => by cases hk; rfl
  have Hw4 := Lib.hid hown4
  have Hv4 := Lib.hid (own_off HvA.out hg4 (fun k hk e => by have := Hvlt.out k hk; have := hr4 k e; omega))
  have Hcur4 := Lib.hid (HcA.out.row hg4 hgw (fun k hk => by have := hr4 k hk; have := Hcur3.out.size; omega))
  have Hs4 := Lib.hid (show w3.heap.size ≤ w4.heap.size from Nat.le_trans (by simp) hg4.size)
  clear hown4 hg4 hr4
  go_wp2_with fail
  refine (l1Once g 2 w4 Hcur4.out.1 (by omega) (by omega)).mono ?_
  rintro e w5 ⟨⟨once, rfl⟩, hc5, hg5⟩
  have Hv5 := Lib.hid (own_cur Hv4.out hg5 hgv); have Hw5 := Lib.hid (own_cur Hw4.out hg5 (Nat.lt_of_lt_of_le hgw Hcur3.out.size)); have Hcur5 := Lib.hid (Hcur4.out.drawn hc5 hg5)
  have Hs5 := Lib.hid (Nat.le_trans Hs4.out hg5.size)
  clear hc5 hg5
  have hgN : g < w3.heap.size := Nat.lt_of_lt_of_le hgw Hcur3.out.size
  cases once with
  | false =>
    go_wp2_with fail
    refine (l1Once g 3 w5 Hcur5.out.1 (by omega) (by omega)).mono ?_
    rintro e u1 ⟨⟨once, rfl⟩, hcu, hgu⟩
    have Hvu := Lib.hid (own_cur Hv5.out hgu hgv); have Hwu := Lib.hid (own_cur Hw5.out hgu hgN); have Hcu := Lib.hid (Hcur5.out.drawn hcu hgu)
    clear hcu hgu
    cases once with
    | false =>
      have Hfin := Lib.hid (show GaveG2 w (.returned (.tuple #[.int .i64 K, .slice va v.length vc, .slice wa v.length wc])) u1 from ⟨K, va, vc, v, wa, wc, v, rfl, by omega, by omega, own_at Hvu.out, by omega, hvc, own_at Hwu.out, by omega, own_cap Hwu.out, below_of_only Hb1.out Hcu.out.2 Hg.out⟩)
      go_wp2
      go_ret3
      exact Hfin.out
    | true =>
      go_wp2_with fail
      refine (l2Draw g 6 (2 * K) 6 u1 Hcu.out.1 (by omega) (by omega) (by omega) rfl).mono ?_
      rintro e u2 ⟨yv, y, rfl, howny, hy6, hyL, hc8, hg8⟩
      obtain ⟨ya, yc, rfl⟩ := own_len howny
      have Hfin := Lib.hid (show GaveG2 w (.returned (.tuple #[.int .i64 K, .slice va v.length vc, .slice ya y.length yc])) u2 from ⟨K, va, vc, v, ya, yc, y, rfl, by omega, by omega, own_at (own_cur Hvu.out hg8 hgv), by omega, hvc, own_at howny, by omega, own_cap howny, below_of_only Hb1.out (Hcu.out.drawn hc8 hg8).2 Hg.out⟩)
      clear howny hc8 hg8 hyL
      go_wp2
      go_ret3
      exact Hfin.out
  | true =>
    go_wp2_with fail
    refine (l1Below g ((v.length : Int) + 1) w5 Hcur5.out.1 (by omega) (by omega)).mono ?_
    rintro e w6 ⟨⟨t0, rfl, ht0, ht1⟩, hc6, hg6⟩
    obtain ⟨t, rfl⟩ := Int.eq_ofNat_of_zero_le ht0
    have Hv6 := Lib.hid (own_cur Hv5.out hg6 hgv); have Hcur6 := Lib.hid (Hcur5.out.drawn hc6 hg6)
    have Hs6 := Lib.hid (Nat.le_trans Hs5.out hg6.size)
    clear hc6 hg6
    have k1 : t ≤ v.length := by omega
    have k2 : (t : Int) ≤ (v.length : Int) := by omega
    have k3 : t ≤ vc := by omega
    have k4 : (t : Int) ≤ (vc : Int) := by omega
    have k5 : (0 : Int) ≤ (t : Int) := by omega
    obtain ⟨X1, hX1⟩ : ∃ X1, v.take t = X1 := ⟨_, rfl⟩
    have l1 : X1.length = t := by rw [← hX1, List.length_take]; omega
    have HX1 := Lib.hid hX1; have Hl1 := Lib.hid l1; have hl1 : X1.length ≤ 6 := by omega
    have hl1s : (v.take t).length = t := by rw [List.length_take]; omega
    have Hl1s := Lib.hid hl1s
    have hl3s : (v.drop t).length = v.length - t := by rw [List.length_drop]
    have Hl3s := Lib.hid hl3s
    clear l1 hX1 ht0 ht1 hl1s hl3s
    obtain ⟨X3, hX3⟩ : ∃ X3, v.drop t = X3 := ⟨_, rfl⟩
    have Hl3 := Lib.hid (show X3.length = v.length - t from by rw [← hX3, List.length_drop])
    have hl3 : X3.length ≤ 6 := by rw [← hX3, List.length_drop]; omega
    have HX3 := Lib.hid hX3
    clear hX3
    rcases Hv3.out.2 with ⟨he, hx⟩ | ⟨vb, vcap, cur, he, _⟩
    · injection he with he1 he2 he3
      subst he1; subst he3
      clear he2
      obtain rfl : v = [] := by simpa [intCells] using hx
      obtain rfl : t = 0 := by simp at k1; omega
      clear hx
      obtain rfl : X1 = [] := List.eq_nil_of_length_eq_zero Hl1.out
      obtain rfl : X3 = [] := List.eq_nil_of_length_eq_zero (by rw [Hl3.out]; rfl)
      have HA2r := Lib.hid (show ∀ W : World, RowAt W none (intCells []) → RowAt W none (intCells []) from fun W h => h)
      have HA1r := HA2r
      have HvD := Lib.hid (own_below Hv6.out (below_made1 w6)); have HcD := Lib.hid (Hcur6.out.below (below_made1 w6))
      have hNs : w3.heap.size ≤ w6.heap.size := Hs6.out
      have HmD := Lib.hid (own_made1 w6)
      go_wp2
      go_region_law (first
        | (refine step_append_rowN rfl (.tmp 29) (.tmp 32) rfl w6.heap.size [] [] 0 0 _ (by rfl) HmD.out rfl none 0 (by rfl) rfl (HA1r.out _ (own_at HvD.out)) (by simp) (by simp) [] rfl ?_; intro a1 c1 u1 hown1 hg1; have Hv1 := Lib.hid (own_off HvD.out hg1 (fun k hk e => by have := Hvlt.out k hk; have e2 : w6.heap.size = k := Option.some.inj e; omega)); have Hc1 := Lib.hid (HcD.out.row hg1 hgw (fun k hk => by have e2 : w6.heap.size = k := Option.some.inj hk; have := Hcur3.out.size; omega)); have Ho1 := Lib.hid hown1; have Hs1 := Lib.hid (show w6.heap.size ≤ u1.heap.size from Nat.le_trans (by simp) hg1.size); clear hown1 hg1)
        | (go_simp; go_at_call 59; refine (spec_Relator K u1).mono ?_; rintro e u2 ⟨ra, rc, rfl, hrc, hrcm, hfr, hb2⟩; have Hr2 := Lib.hid hfr; have Hv2 := Lib.hid (own_below Hv1.out hb2); have Ho2 := Lib.hid (own_below Ho1.out hb2); have Hc2 := Lib.hid (Hc1.out.below hb2); have Hs2 := Lib.hid hb2.size; clear hfr hb2)
        | (go_simp; go_at_call 75; refine (l1Below g 8 u2 Hc2.out.1 (by omega) (by omega)).mono ?_; rintro e u3 ⟨⟨q, rfl, hq0, hq1⟩, hc3, hg3⟩; have Hv3' := Lib.hid (own_cur Hv2.out hg3 hgv); have Ho3 := Lib.hid (own_cur Ho2.out hg3 (Nat.lt_of_lt_of_le hgN hNs)); have Hc3 := Lib.hid (Hc2.out.drawn hc3 hg3); have Hr3 := Lib.hid (Hr2.out.keeps hg3 (fun k hk => by injection hk with hk; have := Hs1.out; omega)); have Hs3 := Lib.hid hg3.size; clear hc3 hg3)
        | (go_simp; go_at_call 98; refine (spec_l2Turn ra rc (Dn.rel K) q u3 Hr3.out.row (by have := Dn.rel_len8 K; omega) hrc (by omega) (by omega)).mono ?_; rintro e u4 ⟨ta, tc, rfl, htc, htcm, hft, hb4⟩; have hT8 : (Word.turn (Dn.rel K) q).length ≤ 8 := (by rw [Word.turn_len]; exact Dn.rel_len8 K); have Ht4 := Lib.hid hft; have Hv4' := Lib.hid (own_below Hv3'.out hb4); have Ho4 := Lib.hid (own_below Ho3.out hb4); have Hc4 := Lib.hid (Hc3.out.below hb4); have Hs4' := Lib.hid hb4.size; clear hft hb4)
        | (obtain ⟨X2, hX2⟩ : ∃ X2, [] ++ Word.turn (Dn.rel K) q = X2 := ⟨_, rfl⟩; have hX2l : X2.length = 0 + (Word.turn (Dn.rel K) q).length := (by rw [← hX2, List.length_append]; rfl); have h2l : X2.length ≤ 14 := (by omega); have HX2 := Lib.hid hX2; clear hX2 hX2l; refine step_append_rowN rfl (.tmp 33) (.tmp 38) rfl w6.heap.size [] (Word.turn (Dn.rel K) q) 0 (Word.turn (Dn.rel K) q).length _ (by rfl) Ho4.out rfl ta tc (by rfl) rfl Ht4.out.row (by have := Hs1.out; have := Hs2.out; have := Hs3.out; have := Hs4'.out; omega) (by omega) X2 HX2.out ?_; intro a5 c5 u5 hown5 hg5; have Hv5' := Lib.hid (own_off Hv4'.out hg5 (fun k hk e => by have := Hvlt.out k hk; have := (Ho4.out.lt k e).1; omega)); have Hc5' := Lib.hid (Hc4.out.row hg5 hgw (fun k hk => by have := (Ho4.out.lt k hk).1; have := Hcur3.out.size; omega)); have Ho5 := Lib.hid hown5; have Hs5' := Lib.hid hg5.size; clear hown5 hg5)
        | (obtain ⟨X4, hX4⟩ : ∃ X4, X2 ++ [] = X4 := ⟨_, rfl⟩; have hX4l : X4.length = X2.length + 0 := (by rw [← hX4, List.length_append]; rfl); have h4l : X4.length ≤ 20 := (by omega); have HX4 := Lib.hid hX4; clear hX4 hX4l; refine step_append_rowN rfl (.tmp 39) (.tmp 42) rfl w6.heap.size X2 [] X2.length 0 _ (by rfl) Ho5.out rfl none 0 (by rfl) rfl (HA2r.out _ (own_at Hv5'.out)) (by have := Hs1.out; have := Hs2.out; have := Hs3.out; have := Hs4'.out; have := Hs5'.out; omega) (by omega) X4 HX4.out ?_; intro a6 c6 u6 hown6 hg6; have Hv6' := Lib.hid (own_off Hv5'.out hg6 (fun k hk e => by have := Hvlt.out k hk; have := (Ho5.out.lt k e).1; omega)); have Hc6' := Lib.hid (Hc5'.out.row hg6 hgw (fun k hk => by have := (Ho5.out.lt k hk).1; have := Hcur3.out.size; omega)); have Ho6 := Lib.hid (own_mono hown6 hNs); clear hown6 hg6))
      go_wp2_with fail
      refine (l1Once g 3 u6 Hc6'.out.1 (by omega) (by omega)).mono ?_
      rintro e u1 ⟨⟨once, rfl⟩, hcu, hgu⟩
      have Hvu := Lib.hid (own_cur Hv6'.out hgu hgv); have Hwu := Lib.hid (own_cur Ho6.out hgu hgN); have Hcu := Lib.hid (Hc6'.out.drawn hcu hgu)
      clear hcu hgu
      cases once with
      | false =>
        have Hfin := Lib.hid (show GaveG2 w (.returned (.tuple #[.int .i64 K, .slice none ([] : List Int).length 0, .slice a6 X4.length c6])) u1 from ⟨K, none, 0, ([] : List Int), a6, c6, X4, rfl, by omega, by omega, own_at Hvu.out, by omega, hvc, own_at Hwu.out, by omega, own_cap Hwu.out, below_of_only Hb1.out Hcu.out.2 Hg.out⟩)
        go_wp2
        go_ret3
        exact Hfin.out
      | true =>
        go_wp2_with fail
        refine (l2Draw g 6 (2 * K) 6 u1 Hcu.out.1 (by omega) (by omega) (by omega) rfl).mono ?_
        rintro e u2 ⟨yv, y, rfl, howny, hy6, hyL, hc8, hg8⟩
        obtain ⟨ya, yc, rfl⟩ := own_len howny
        have Hfin := Lib.hid (show GaveG2 w (.returned (.tuple #[.int .i64 K, .slice none ([] : List Int).length 0, .slice ya y.length yc])) u2 from ⟨K, none, 0, ([] : List Int), ya, yc, y, rfl, by omega, by omega, own_at (own_cur Hvu.out hg8 hgv), by omega, hvc, own_at howny, by omega, own_cap howny, below_of_only Hb1.out (Hcu.out.drawn hc8 hg8).2 Hg.out⟩)
        clear howny hc8 hg8 hyL
        go_wp2
        go_ret3
        exact Hfin.out
    · injection he with he1 he2 he3
      subst he3
      clear he2
      obtain ⟨o, ho⟩ : ∃ o : Nat, 0 = o := ⟨_, rfl⟩
      rw [ho] at he1
      subst he1
      clear ho
      obtain ⟨A2, hA2⟩ : ∃ A2, (if vc = t then some (⟨vb, o, none⟩ : Addr) else some ⟨vb, o + t, none⟩) = A2 := ⟨_, rfl⟩
      have HA2r := Lib.hid (show ∀ W, RowAt W (some ⟨vb, o, none⟩) (intCells v) → RowAt W A2 (intCells X3) from fun W h => by rw [← hA2, ← HX3.out]; exact cut_rowZ h k1 hvc)
      have HA1r := Lib.hid (show ∀ W, RowAt W (some ⟨vb, o, none⟩) (intCells v) → RowAt W (some ⟨vb, o, none⟩) (intCells X1) from fun W h => by rw [← HX1.out]; exact row_take h)
      have HvD := Lib.hid (own_below Hv6.out (below_made1 w6)); have HcD := Lib.hid (Hcur6.out.below (below_made1 w6))
      have hNs : w3.heap.size ≤ w6.heap.size := Hs6.out
      have HmD := Lib.hid (own_made1 w6)
      go_wp2
      go_region_law (first
        | (refine step_append_rowN rfl (.tmp 29) (.tmp 32) rfl w6.heap.size [] X1 0 t _ (by rfl) HmD.out rfl (some ⟨vb, o, none⟩) vc (by rfl) Hl1.out (HA1r.out _ (own_at HvD.out)) (by simp) (by simp; omega) X1 rfl ?_; intro a1 c1 u1 hown1 hg1; have Hv1 := Lib.hid (own_off HvD.out hg1 (fun k hk e => by have := Hvlt.out k hk; have e2 : w6.heap.size = k := Option.some.inj e; omega)); have Hc1 := Lib.hid (HcD.out.row hg1 hgw (fun k hk => by have e2 : w6.heap.size = k := Option.some.inj hk; have := Hcur3.out.size; omega)); have Ho1 := Lib.hid hown1; have Hs1 := Lib.hid (show w6.heap.size ≤ u1.heap.size from Nat.le_trans (by simp) hg1.size); clear hown1 hg1)
        | (go_simp; go_at_call 59; refine (spec_Relator K u1).mono ?_; rintro e u2 ⟨ra, rc, rfl, hrc, hrcm, hfr, hb2⟩; have Hr2 := Lib.hid hfr; have Hv2 := Lib.hid (own_below Hv1.out hb2); have Ho2 := Lib.hid (own_below Ho1.out hb2); have Hc2 := Lib.hid (Hc1.out.below hb2); have Hs2 := Lib.hid hb2.size; clear hfr hb2)
        | (go_simp; go_at_call 75; refine (l1Below g 8 u2 Hc2.out.1 (by omega) (by omega)).mono ?_; rintro e u3 ⟨⟨q, rfl, hq0, hq1⟩, hc3, hg3⟩; have Hv3' := Lib.hid (own_cur Hv2.out hg3 hgv); have Ho3 := Lib.hid (own_cur Ho2.out hg3 (Nat.lt_of_lt_of_le hgN hNs)); have Hc3 := Lib.hid (Hc2.out.drawn hc3 hg3); have Hr3 := Lib.hid (Hr2.out.keeps hg3 (fun k hk => by injection hk with hk; have := Hs1.out; omega)); have Hs3 := Lib.hid hg3.size; clear hc3 hg3)
        | (go_simp; go_at_call 98; refine (spec_l2Turn ra rc (Dn.rel K) q u3 Hr3.out.row (by have := Dn.rel_len8 K; omega) hrc (by omega) (by omega)).mono ?_; rintro e u4 ⟨ta, tc, rfl, htc, htcm, hft, hb4⟩; have hT8 : (Word.turn (Dn.rel K) q).length ≤ 8 := (by rw [Word.turn_len]; exact Dn.rel_len8 K); have Ht4 := Lib.hid hft; have Hv4' := Lib.hid (own_below Hv3'.out hb4); have Ho4 := Lib.hid (own_below Ho3.out hb4); have Hc4 := Lib.hid (Hc3.out.below hb4); have Hs4' := Lib.hid hb4.size; clear hft hb4)
        | (obtain ⟨X2, hX2⟩ : ∃ X2, X1 ++ Word.turn (Dn.rel K) q = X2 := ⟨_, rfl⟩; have hX2l : X2.length = X1.length + (Word.turn (Dn.rel K) q).length := (by rw [← hX2, List.length_append]); have h2l : X2.length ≤ 14 := (by omega); have HX2 := Lib.hid hX2; clear hX2 hX2l; refine step_append_rowN rfl (.tmp 33) (.tmp 38) rfl w6.heap.size X1 (Word.turn (Dn.rel K) q) X1.length (Word.turn (Dn.rel K) q).length _ (by rfl) Ho4.out rfl ta tc (by rfl) rfl Ht4.out.row (by have := Hs1.out; have := Hs2.out; have := Hs3.out; have := Hs4'.out; omega) (by omega) X2 HX2.out ?_; intro a5 c5 u5 hown5 hg5; have Hv5' := Lib.hid (own_off Hv4'.out hg5 (fun k hk e => by have := Hvlt.out k hk; have := (Ho4.out.lt k e).1; omega)); have Hc5' := Lib.hid (Hc4.out.row hg5 hgw (fun k hk => by have := (Ho4.out.lt k hk).1; have := Hcur3.out.size; omega)); have Ho5 := Lib.hid hown5; have Hs5' := Lib.hid hg5.size; clear hown5 hg5)
        | (obtain ⟨X4, hX4⟩ : ∃ X4, X2 ++ X3 = X4 := ⟨_, rfl⟩; have hX4l : X4.length = X2.length + X3.length := (by rw [← hX4, List.length_append]); have h4l : X4.length ≤ 20 := (by omega); have HX4 := Lib.hid hX4; clear hX4 hX4l; refine step_append_rowN rfl (.tmp 39) (.tmp 42) rfl w6.heap.size X2 X3 X2.length (v.length - t) _ (by rfl) Ho5.out rfl A2 (vc - t) (by rfl) Hl3.out (HA2r.out _ (own_at Hv5'.out)) (by have := Hs1.out; have := Hs2.out; have := Hs3.out; have := Hs4'.out; have := Hs5'.out; omega) (by omega) X4 HX4.out ?_; intro a6 c6 u6 hown6 hg6; have Hv6' := Lib.hid (own_off Hv5'.out hg6 (fun k hk e => by have := Hvlt.out k hk; have := (Ho5.out.lt k e).1; omega)); have Hc6' := Lib.hid (Hc5'.out.row hg6 hgw (fun k hk => by have := (Ho5.out.lt k hk).1; have := Hcur3.out.size; omega)); have Ho6 := Lib.hid (own_mono hown6 hNs); clear hown6 hg6))
      go_wp2_with fail
      refine (l1Once g 3 u6 Hc6'.out.1 (by omega) (by omega)).mono ?_
      rintro e u1 ⟨⟨once, rfl⟩, hcu, hgu⟩
      have Hvu := Lib.hid (own_cur Hv6'.out hgu hgv); have Hwu := Lib.hid (own_cur Ho6.out hgu hgN); have Hcu := Lib.hid (Hc6'.out.drawn hcu hgu)
      clear hcu hgu
      cases once with
      | false =>
        have Hfin := Lib.hid (show GaveG2 w (.returned (.tuple #[.int .i64 K, .slice (some ⟨vb, o, none⟩) v.length vc, .slice a6 X4.length c6])) u1 from ⟨K, (some ⟨vb, o, none⟩), vc, v, a6, c6, X4, rfl, by omega, by omega, own_at Hvu.out, by omega, hvc, own_at Hwu.out, by omega, own_cap Hwu.out, below_of_only Hb1.out Hcu.out.2 Hg.out⟩)
        go_wp2
        go_ret3
        exact Hfin.out
      | true =>
        go_wp2_with fail
        refine (l2Draw g 6 (2 * K) 6 u1 Hcu.out.1 (by omega) (by omega) (by omega) rfl).mono ?_
        rintro e u2 ⟨yv, y, rfl, howny, hy6, hyL, hc8, hg8⟩
        obtain ⟨ya, yc, rfl⟩ := own_len howny
        have Hfin := Lib.hid (show GaveG2 w (.returned (.tuple #[.int .i64 K, .slice (some ⟨vb, o, none⟩) v.length vc, .slice ya y.length yc])) u2 from ⟨K, (some ⟨vb, o, none⟩), vc, v, ya, yc, y, rfl, by omega, by omega, own_at (own_cur Hvu.out hg8 hgv), by omega, hvc, own_at howny, by omega, own_cap howny, below_of_only Hb1.out (Hcu.out.drawn hc8 hg8).2 Hg.out⟩)
        clear howny hc8 hg8 hyL
        go_wp2
        go_ret3
        exact Hfin.out
set_option maxRecDepth 10000 in
set_option maxHeartbeats 1000000 in
theorem drawAreEqualWords (a : Option Addr) (c : Nat) (l : List Int) (w : World) (ha : RowAt w a (byteCells l)) (hb : ∀ x ∈ l, 0 ≤ x ∧ x ≤ 255) (hsz : l.length ≤ 1048576) :
    Calls Try.prog 49 #[.slice a l.length c] w (GaveG2 w) := by
  have H := Lib.hid (l8Two a c l w ha hb hsz)
  clear ha hb hsz
  go_enter Try.func49, Try.ntmps49
  go_wp2_with fail
  refine H.out.mono ?_
  rintro e w1 hG
  have HG := Lib.hid hG
  obtain ⟨G, a1, c1, l1, a2, c2, l2, rfl, _⟩ := hG
  go_wp2
  go_ret3
  exact HG.out

set_option maxRecDepth 100000 in
set_option maxHeartbeats 4000000 in
theorem drawCommuteIn (a : Option Addr) (c : Nat) (l : List Int) (w : World) (ha : RowAt w a (byteCells l)) (hb : ∀ x ∈ l, 0 ≤ x ∧ x ≤ 255) (hsz : l.length ≤ 1048576) :
    Calls Try.prog 50 #[.slice a l.length c] w (GaveG2 w) := by
  go_enter Try.func50, Try.ntmps50
  go_wp2_with fail
  refine (l1New a c l w ha hb hsz).mono ?_
  rintro e w1 ⟨g, rfl, hg, hc1, hb1⟩
  have hgw := hc1.lt
  have Hcur1 := Lib.hid (show CurG w1 g w1 from ⟨hc1, World.grownBy.refl _ _⟩); have Hb1 := Lib.hid hb1; have Hg := Lib.hid hg
  clear ha hb hsz hc1 hb1 hg
  go_wp2_with fail
  refine (l1Below g 2 w1 Hcur1.out.1 (by omega) (by omega)).mono ?_
  rintro e w2 ⟨⟨G0, rfl, hG0, hG1⟩, hc2, hg2⟩
  have Hcur2 := Lib.hid (Hcur1.out.drawn hc2 hg2)
  have hK0 : 1 ≤ 1 + G0 := by omega
  have hK1 : 1 + G0 ≤ 2 := by omega
  clear hG0 hG1 hc2 hg2
  go_wp2_with fail
  generalize 1 + G0 = K at *
  refine (l2Draw g 3 (2 * K) 3 w2 Hcur2.out.1 (by omega) (by omega) (by omega) rfl).mono ?_
  rintro e w3 ⟨vv, v, rfl, hownv, hv6, hvL, hc3, hg3⟩
  obtain ⟨va, vc, rfl⟩ := own_len hownv
  have hgv : g < w2.heap.size := Nat.lt_of_lt_of_le hgw Hcur2.out.size
  have Hv3 := Lib.hid hownv; have Hcur3 := Lib.hid (Hcur2.out.drawn hc3 hg3)
  have hvc := own_cap hownv
  clear hownv hvL hc3 hg3
  go_wp2_with fail
  refine (l2Draw g 4 (2 * K) 4 w3 Hcur3.out.1 (by omega) (by omega) (by omega) rfl).mono ?_
  rintro e w4 ⟨yv, y, rfl, howny, hy6, hyL, hc4, hg4⟩
  obtain ⟨ya, yc, rfl⟩ := own_len howny
  have Hv4 := Lib.hid (own_cur Hv3.out hg4 hgv); have Hy4 := Lib.hid howny; have Hcur4 := Lib.hid (Hcur3.out.drawn hc4 hg4)
  have hgy : g < w3.heap.size := Nat.lt_of_lt_of_le hgw Hcur3.out.size
  have hyc := own_cap howny
  clear howny hyL hc4 hg4
  go_wp2_with fail
  refine (l1Once g 3 w4 Hcur4.out.1 (by omega) (by omega)).mono ?_
  rintro e w5 ⟨⟨once, rfl⟩, hc5, hg5⟩
  have Hv5 := Lib.hid (own_cur Hv4.out hg5 hgv); have Hy5 := Lib.hid (own_cur Hy4.out hg5 hgy); have Hcur5 := Lib.hid (Hcur4.out.drawn hc5 hg5)
  clear hc5 hg5
  cases once with
  | false =>
    have Hfin := Lib.hid (show GaveG2 w (.returned (.tuple #[.int .i64 K, .slice va v.length vc, .slice ya y.length yc])) w5 from ⟨K, va, vc, v, ya, yc, y, rfl, by omega, by omega, own_at Hv5.out, by omega, hvc, own_at Hy5.out, by omega, hyc, below_of_only Hb1.out Hcur5.out.2 Hg.out⟩)
    go_wp2
    go_ret3
    exact Hfin.out
  | true =>
    have Hm := Lib.hid (own_made (w := w5) rfl)
    have HvA := Lib.hid (Hv5.out.alloc (.cells #[] 3)); have HcA := Lib.hid (Hcur5.out.alloc (.cells #[] 3))
    have Hvlt := Lib.hid (show ∀ k, (Value.slice va v.length vc).ownBlock = some k → k < w5.heap.size from fun k hk => (Hv5.out.lt k hk).2)
    obtain ⟨X, hX⟩ : ∃ X, v ++ v = X := ⟨_, rfl⟩
    have hXl : X.length ≤ 6 := by rw [← hX, List.length_append]; omega
    have HX := Lib.hid hX
    clear hX
    go_wp2_with (first
      | (at_builtin; refine append_rowN rfl (.tmp 24) (.tmp 25) rfl w5.heap.size [] v _ rfl Hm.out va _ rfl (own_at HvA.out) (by simp) (by simp; omega) v rfl ?_; intro a6 c6 w6 hown6 hg6 hl6; have Hv6 := Lib.hid (own_off HvA.out hg6 (fun k hk e => by have := Hvlt.out k hk; have e2 : w5.heap.size = k := Option.some.inj e; omega)); have Hc6 := Lib.hid (HcA.out.row hg6 hgw (fun k hk => by have e2 : w5.heap.size = k := Option.some.inj hk; have := Hcur5.out.size; omega)); have Ho6 := Lib.hid hown6; have Hs6 := Lib.hid (show w5.heap.size ≤ w6.heap.size from Nat.le_trans (by simp) hg6.size); clear hown6 hg6 hl6)
      | (at_builtin; refine append_rowN rfl (.tmp 26) (.tmp 27) rfl w5.heap.size v v _ rfl Ho6.out va _ rfl (own_at Hv6.out) Hs6.out (by omega) X HX.out ?_; intro a7 c7 w7 hown7 hg7 hl7; have Hv7 := Lib.hid (own_off Hv6.out hg7 (fun k hk e => by have := Hvlt.out k hk; have := (Ho6.out.lt k e).1; omega)); have Hc7 := Lib.hid (Hc6.out.row hg7 hgw (fun k hk => by have := (Ho6.out.lt k hk).1; have := Hcur5.out.size; omega)); have Ho7 := Lib.hid hown7; clear hown7 hg7 hl7))
    have Hfin := Lib.hid (show GaveG2 w (.returned (.tuple #[.int .i64 K, .slice va v.length vc, .slice a7 X.length c7])) w7 from ⟨K, va, vc, v, a7, c7, X, rfl, by omega, by omega, own_at Hv7.out, by omega, hvc, own_at Ho7.out, by omega, own_cap Ho7.out, below_of_only Hb1.out Hc7.out.2 Hg.out⟩)
    go_ret3
    exact Hfin.out
end Go.Proofs.Ytfaagbmaekoogaa
