/-
  The walks of the model's draws for the law on groups. Classes merged in three loops in one another; how many classes there are, told by other labels. Maps, as functions of lists: what the document's chapter on maps says of them. Lists of permutations, and how words act by them: pure. Marks of numbers that were seen; the walks of isPermutation and IsMap, the program's and the model's; the other dart of an edge. The walk of the model's inverse of a permutation. The walks of the model's l9Perms, l9Act and ActWord. The laws' sum of a list of noughts. A slice of bytes that comes in: its cells are known. The laws' test whether two slices hold the same integers, and rows that are carried along.
-/
import Derived.Test.YtfaagbmaekoogaaMrgG1
import Derived.Test.YtfaagbmaekoogaaMrgG2
import Derived.Deep.RegionLaw
import Derived.Deep.QuietTactic
import Derived.BigQuiet
import Derived.StillTailTactics
import Derived.OpenShut
namespace Go.Proofs.Ytfaagbmaekoogaa
open Go.RowKit

/-- append of a row to a row of the call's own, and where it lies then, as a step of a region that draws. -/
theorem step_append_rowN {ops : Array Oper} {o : Oper} {a : Act} {W : World} {K : Act → World → Prop} {Q : Exit → Act → World → Prop} {E : Prop} (hgd : o.guard = none) (s x : Operand)
    (ho : o.op = .call { callee := .builtin .append, args := #[s, x], argTypes := #[42, 42] })
    (N : Nat) (l m : List Int) (n n2 : Nat) (ov : Value) (hs : a.eval s = ov) (h : W.ownsRow N 3 1 ov n (intCells l)) (hn : l.length = n) (ad : Option Addr) (c : Nat) (hx : a.eval x = .slice ad n2 c) (hn2 : m.length = n2) (hr : RowAt W ad (intCells m)) (hN : N ≤ W.heap.size) (hlen : l.length + m.length ≤ 4194304) (r : List Int) (hlm : l ++ m = r)
    (k : ∀ av cv w', w'.ownsRow N 3 1 (.slice av r.length cv) r.length (intCells r) → W.grownBy w' ov.ownBlock → K (a.put o.dst (.slice av r.length cv)) w') :
    if Region.wanted o (yielded ops a.tmps) = true then Oper.wp Try.prog o a W K Q else E := by
  subst hlm; subst hn; subst hn2
  obtain ⟨i0, hi0, hz0, hz1, hz2⟩ := info_int_parts
  have hap : intCells (l ++ m) = intCells l ++ intCells m := by simp [intCells]
  refine step_append_row hgd s x 42 ho N 3 i0 _ 8 Try.underlying42 hi0 hz0 hz1 hz2 (by rfl) ov l.length (intCells l) hs h ad m.length c (intCells m) hx hr (intCells_len m) (intCells_one m) (by unfold maxLen; omega) (by omega) hN ?_
  intro v' w' hown hg
  have hown' : w'.ownsRow N 3 1 v' (l ++ m).length (intCells (l ++ m)) := by rw [List.length_append, hap]; exact hown
  obtain ⟨av, cv, rfl⟩ := own_len hown'
  exact k av cv w' hown' hg

theorem cut_rowZ {w : World} {b o c m : Nat} {l : List Int} (h : RowAt w (some ⟨b, o, none⟩) (intCells l)) (hm : m ≤ l.length) (hc : l.length ≤ c) : RowAt w (if c = m then some ⟨b, o, none⟩ else some ⟨b, o + m, none⟩) (intCells (l.drop m)) := by
  by_cases e : c = m
  · exact Or.inl (by rw [List.drop_eq_nil_of_le (by omega)]; rfl)
  · rw [if_neg e]; exact row_drop h
/-- A number and a word, in memory of the call's own. -/
def GaveGW (w : World) (e : Ending) (w' : World) : Prop := ∃ (G : Int) (a : Option Addr) (c : Nat) (l : List Int), e = .returned (.tuple #[.int .i64 G, .slice a l.length c]) ∧ -10 ≤ G ∧ G ≤ 10 ∧ RowAt w' a (intCells l) ∧ l.length ≤ 100 ∧ l.length ≤ c ∧ Below w.heap.size w w'
set_option maxRecDepth 10000 in
set_option maxHeartbeats 1000000 in
theorem drawIsTrivialWord (a : Option Addr) (c : Nat) (l : List Int) (w : World) (ha : RowAt w a (byteCells l)) (hb : ∀ x ∈ l, 0 ≤ x ∧ x ≤ 255) (hsz : l.length ≤ 1048576) :
    Calls Try.prog 46 #[.slice a l.length c] w (GaveGW w) := by
  go_enter Try.func46, Try.ntmps46
  go_wp2_with fail
  refine (l1New a c l w ha hb hsz).mono ?_
  rintro e w1 ⟨g, rfl, hg, hc1, hb1⟩
  go_wp2_with fail
  refine (l8Draw g w1 hc1).mono ?_
  rintro e w2 ⟨G, ga, gc, gl, rfl, h1, h2, h3, h4, h5, h6⟩
  have Hfin := Lib.hid (show GaveGW w (.returned (.tuple #[.int .i64 G, .slice ga gl.length gc])) w2 from ⟨G, ga, gc, gl, rfl, h1, h2, h3, h4, h5, below_of_only hb1 h6.2 hg⟩)
  clear h3 h6
  go_wp2
  go_ret2
  exact Hfin.out

set_option maxRecDepth 10000 in
set_option maxHeartbeats 1000000 in
theorem drawRelator (a : Option Addr) (c : Nat) (l : List Int) (w : World) (ha : RowAt w a (byteCells l)) (hb : ∀ x ∈ l, 0 ≤ x ∧ x ≤ 255) (hsz : l.length ≤ 1048576) :
    Calls Try.prog 51 #[.slice a l.length c] w fun e w' => (∃ n : Int, e = .returned (.int .i64 n) ∧ -1 ≤ n ∧ n ≤ 3) ∧ Below w.heap.size w w' := by
  go_enter Try.func51, Try.ntmps51
  go_wp2_with fail
  refine (l1New a c l w ha hb hsz).mono ?_
  rintro e w1 ⟨g, rfl, hg, hc1, hb1⟩
  go_wp2_with fail
  refine (l1Below g 5 w1 hc1 (by omega) (by omega)).mono ?_
  rintro e w2 ⟨⟨x, rfl, hx0, hx1⟩, hc2, hg2⟩
  have Hb := Lib.hid (below_of_only hb1 hg2 hg)
  clear hc2 hg2 hb1
  go_wp2
  go_ret
  exact ⟨⟨_, rfl, by omega, by omega⟩, Hb.out⟩

/-- A number and two words, in memory of the call's own. -/
def GaveG2 (w : World) (e : Ending) (w' : World) : Prop := ∃ (G : Int) (a : Option Addr) (c : Nat) (l : List Int) (a' : Option Addr) (c' : Nat) (l' : List Int), e = .returned (.tuple #[.int .i64 G, .slice a l.length c, .slice a' l'.length c']) ∧ -10 ≤ G ∧ G ≤ 10 ∧ RowAt w' a (intCells l) ∧ l.length ≤ 100 ∧ l.length ≤ c ∧ RowAt w' a' (intCells l') ∧ l'.length ≤ 100 ∧ l'.length ≤ c' ∧ Below w.heap.size w w'
set_option maxRecDepth 100000 in
set_option maxHeartbeats 8000000 in
theorem l8Two (a : Option Addr) (c : Nat) (l : List Int) (w : World) (ha : RowAt w a (byteCells l)) (hb : ∀ x ∈ l, 0 ≤ x ∧ x ≤ 255) (hsz : l.length ≤ 1048576) :
    Calls Try.prog 124 #[.slice a l.length c] w (GaveG2 w) := by
  go_enter Try.func124, Try.ntmps124
  go_wp2_with fail
  refine (l1New a c l w ha hb hsz).mono ?_
  rintro e w1 ⟨g, rfl, hg, hc1, hb1⟩
  have hgw := hc1.lt
  have Hcur1 := Lib.hid (show CurG w1 g w1 from ⟨hc1, World.grownBy.refl _ _⟩); have Hb1 := Lib.hid hb1; have Hg := Lib.hid hg
  clear ha hb hsz hc1 hb1 hg
  go_wp2_with fail
  refine (l1Below g 2 w1 Hcur1.out.1 (by omega) (by omega)).mono ?_
  rintro e w2 ⟨⟨G0, rfl, hG0, hG1⟩, hc2, hg2⟩
  have Hcur2 := Lib.hid (Hcur1.out.drawn hc2 hg2)
  have hGr : Dn.Gr (1 + G0) := by unfold Dn.Gr; omega
  have hK0 : 1 ≤ 1 + G0 := by omega
  have hK1 : 1 + G0 ≤ 2 := by omega
  clear hG0 hG1 hc2 hg2
  go_wp2_with fail
  generalize 1 + G0 = K at *
  refine (l2Draw g 6 (2 * K) 6 w2 Hcur2.out.1 (by omega) (by omega) (by omega) rfl).mono ?_
  rintro e w3 ⟨vv, v, rfl, hownv, hv6, hvL, hc3, hg3⟩
  obtain ⟨va, vc, rfl⟩ := own_len hownv
  have hgv : g < w2.heap.size := Nat.lt_of_lt_of_le hgw Hcur2.out.size
  have Hv3 := Lib.hid hownv; have Hcur3 := Lib.hid (Hcur2.out.drawn hc3 hg3)
  have Hvlt := Lib.hid (show ∀ k, (Value.slice va v.length vc).ownBlock = some k → k < w3.heap.size from fun k hk => (hownv.lt k hk).2)
  have hvc := own_cap hownv
  clear hownv hvL hc3 hg3
  have Hm3 := Lib.hid (own_made (w := w3) rfl)
  have HvA := Lib.hid (Hv3.out.alloc (.cells #[] 3)); have HcA := Lib.hid (Hcur3.out.alloc (.cells #[] 3))
  go_wp2_with (at_builtin; refine append_rowN rfl (.tmp 19) (.tmp 20) rfl w3.heap.size [] v _ rfl Hm3.out va _ rfl (own_at HvA.out) (by simp) (by simp; omega) v rfl ?_; intro wa wc w4 hown4 hg4 hl4; have Hown4 := Lib.hid hown4; have Hg4 := Lib.hid hg4; clear hown4 hg4 hl4)
  have hown4 := Hown4.out; have hg4 := Hg4.out
  have hr4 : ∀ k, (Value.slice (some ⟨w3.heap.size, 0, none⟩) 0 0).ownBlock = some k → k = w3.heap.size := fun k hk => by cases hk; rfl
  have Hw4 := Lib.hid hown4
  have Hv4 := Lib.hid (own_off HvA.out hg4 (fun k hk e => by have := Hvlt.out k hk; have := hr4 k e; omega))
  have Hcur4 := Lib.hid (HcA.out.row hg4 hgw (fun k hk => by have := hr4 k hk; have := Hcur3.out.size; omega))
  have Hs4 := Lib.hid (show w3.heap.size ≤ w4.heap.size from Nat.le_trans (by simp) hg4.size)
  clear hown4 hg4 hr4
  go_wp2_with fail
  refine (l1Once g 2 w4 Hcur4.out.1 (by omega) (by omega)).mono ?_
  rintro e w5 ⟨⟨once, rfl⟩, hc5, hg5⟩
  have Hv5 := Lib.hid (own_cur Hv4.out hg5 hgv); have Hw5 := Lib.hid (own_cur Hw4.out hg5 (Nat.lt_of_lt_of_le hgw Hcur3.out.size)); have Hcur5 := Lib.hid (Hcur4.out.drawn hc5 hg5)
  have Hs5 := Lib.hid (Nat.le_trans Hs4.out hg5.size)
  clear hc5 hg5
  have hgN : g < w3.heap.size := Nat.lt_of_lt_of_le hgw Hcur3.out.size
  cases once with
  | false =>
    go_wp2_with fail
    refine (l1Once g 3 w5 Hcur5.out.1 (by omega) (by omega)).mono ?_
    rintro e u1 ⟨⟨once, rfl⟩, hcu, hgu⟩
    have Hvu := Lib.hid (own_cur Hv5.out hgu hgv); have Hwu := Lib.hid (own_cur Hw5.out hgu hgN); have Hcu := Lib.hid (Hcur5.out.drawn hcu hgu)
    clear hcu hgu
    cases once with
    | false =>
      have Hfin := Lib.hid (show GaveG2 w (.returned (.tuple #[.int .i64 K, .slice va v.length vc, .slice wa v.length wc])) u1 from ⟨K, va, vc, v, wa, wc, v, rfl, by omega, by omega, own_at Hvu.out, by omega, hvc, own_at Hwu.out, by omega, own_cap Hwu.out, below_of_only Hb1.out Hcu.out.2 Hg.out⟩)
      go_wp2
      go_ret3
      exact Hfin.out
    | true =>
      go_wp2_with fail
      refine (l2Draw g 6 (2 * K) 6 u1 Hcu.out.1 (by omega) (by omega) (by omega) rfl).mono ?_
      rintro e u2 ⟨yv, y, rfl, howny, hy6, hyL, hc8, hg8⟩
      obtain ⟨ya, yc, rfl⟩ := own_len howny
      have Hfin := Lib.hid (show GaveG2 w (.returned (.tuple #[.int .i64 K, .slice va v.length vc, .slice ya y.length yc])) u2 from ⟨K, va, vc, v, ya, yc, y, rfl, by omega, by omega, own_at (own_cur Hvu.out hg8 hgv), by omega, hvc, own_at howny, by omega, own_cap howny, below_of_only Hb1.out (Hcu.out.drawn hc8 hg8).2 Hg.out⟩)
      clear howny hc8 hg8 hyL
      go_wp2
      go_ret3
      exact Hfin.out
  | true =>
    go_wp2_with fail
    refine (l1Below g ((v.length : Int) + 1) w5 Hcur5.out.1 (by omega) (by omega)).mono ?_
    rintro e w6 ⟨⟨t0, rfl, ht0, ht1⟩, hc6, hg6⟩
    obtain ⟨t, rfl⟩ := Int.eq_ofNat_of_zero_le ht0
    have Hv6 := Lib.hid (own_cur Hv5.out hg6 hgv); have Hcur6 := Lib.hid (Hcur5.out.drawn hc6 hg6)
    have Hs6 := Lib.hid (Nat.le_trans Hs5.out hg6.size)
    clear hc6 hg6
    have k1 : t ≤ v.length := by omega
    have k2 : (t : Int) ≤ (v.length : Int) := by omega
    have k3 : t ≤ vc := by omega
    have k4 : (t : Int) ≤ (vc : Int) := by omega
    have k5 : (0 : Int) ≤ (t : Int) := by omega
    obtain ⟨X1, hX1⟩ : ∃ X1, v.take t = X1 := ⟨_, rfl⟩
    have l1 : X1.length = t := by rw [← hX1, List.length_take]; omega
    have HX1 := Lib.hid hX1; have Hl1 := Lib.hid l1; have hl1 : X1.length ≤ 6 := by omega
    have hl1s : (v.take t).length = t := by rw [List.length_take]; omega
    have Hl1s := Lib.hid hl1s
    have hl3s : (v.drop t).length = v.length - t := by rw [List.length_drop]
    have Hl3s := Lib.hid hl3s
    clear l1 hX1 ht0 ht1 hl1s hl3s
    obtain ⟨X3, hX3⟩ : ∃ X3, v.drop t = X3 := ⟨_, rfl⟩
    have Hl3 := Lib.hid (show X3.length = v.length - t from by rw [← hX3, List.length_drop])
    have hl3 : X3.length ≤ 6 := by rw [← hX3, List.length_drop]; omega
    have HX3 := Lib.hid hX3
    clear hX3
    rcases Hv3.out.2 with ⟨he, hx⟩ | ⟨vb, vcap, cur, he, _⟩
    · injection he with he1 he2 he3
      subst he1; subst he3
      clear he2
      obtain rfl : v = [] := by simpa [intCells] using hx
      obtain rfl : t = 0 := by simp at k1; omega
      clear hx
      obtain rfl : X1 = [] := List.eq_nil_of_length_eq_zero Hl1.out
      obtain rfl : X3 = [] := List.eq_nil_of_length_eq_zero (by rw [Hl3.out]; rfl)
      have HA2r := Lib.hid (show ∀ W : World, RowAt W none (intCells []) → RowAt W none (intCells []) from fun W h => h)
      have HA1r := HA2r
      have HvD := Lib.hid (own_below Hv6.out (below_made1 w6)); have HcD := Lib.hid (Hcur6.out.below (below_made1 w6))
      have hNs : w3.heap.size ≤ w6.heap.size := Hs6.out
      have HmD := Lib.hid (own_made1 w6)
      go_wp2
      go_region_law (first
        | (refine step_append_rowN rfl (.tmp 29) (.tmp 32) rfl w6.heap.size [] [] 0 0 _ (by rfl) HmD.out rfl none 0 (by rfl) rfl (HA1r.out _ (own_at HvD.out)) (by simp) (by simp) [] rfl ?_; intro a1 c1 u1 hown1 hg1; have Hv1 := Lib.hid (own_off HvD.out hg1 (fun k hk e => by have := Hvlt.out k hk; have e2 : w6.heap.size = k := Option.some.inj e; omega)); have Hc1 := Lib.hid (HcD.out.row hg1 hgw (fun k hk => by have e2 : w6.heap.size = k := Option.some.inj hk; have := Hcur3.out.size; omega)); have Ho1 := Lib.hid hown1; have Hs1 := Lib.hid (show w6.heap.size ≤ u1.heap.size from Nat.le_trans (by simp) hg1.size); clear hown1 hg1)
        | (go_simp; go_at_call 59; refine (spec_Relator K u1).mono ?_; rintro e u2 ⟨ra, rc, rfl, hrc, hrcm, hfr, hb2⟩; have Hr2 := Lib.hid hfr; have Hv2 := Lib.hid (own_below Hv1.out hb2); have Ho2 := Lib.hid (own_below Ho1.out hb2); have Hc2 := Lib.hid (Hc1.out.below hb2); have Hs2 := Lib.hid hb2.size; clear hfr hb2)
        | (go_simp; go_at_call 75; refine (l1Below g 8 u2 Hc2.out.1 (by omega) (by omega)).mono ?_; rintro e u3 ⟨⟨q, rfl, hq0, hq1⟩, hc3, hg3⟩; have Hv3' := Lib.hid (own_cur Hv2.out hg3 hgv); have Ho3 := Lib.hid (own_cur Ho2.out hg3 (Nat.lt_of_lt_of_le hgN hNs)); have Hc3 := Lib.hid (Hc2.out.drawn hc3 hg3); have Hr3 := Lib.hid (Hr2.out.keeps hg3 (fun k hk => by injection hk with hk; have := Hs1.out; omega)); have Hs3 := Lib.hid hg3.size; clear hc3 hg3)
        | (go_simp; go_at_call 98; refine (spec_l2Turn ra rc (Dn.rel K) q u3 Hr3.out.row (by have := Dn.rel_len8 K; omega) hrc (by omega) (by omega)).mono ?_; rintro e u4 ⟨ta, tc, rfl, htc, htcm, hft, hb4⟩; have hT8 : (Word.turn (Dn.rel K) q).length ≤ 8 := (by rw [Word.turn_len]; exact Dn.rel_len8 K); have Ht4 := Lib.hid hft; have Hv4' := Lib.hid (own_below Hv3'.out hb4); have Ho4 := Lib.hid (own_below Ho3.out hb4); have Hc4 := Lib.hid (Hc3.out.below hb4); have Hs4' := Lib.hid hb4.size; clear hft hb4)
        | (obtain ⟨X2, hX2⟩ : ∃ X2, [] ++ Word.turn (Dn.rel K) q = X2 := ⟨_, rfl⟩; have hX2l : X2.length = 0 + (Word.turn (Dn.rel K) q).length := (by rw [← hX2, List.length_append]; rfl); have h2l : X2.length ≤ 14 := (by omega); have HX2 := Lib.hid hX2; clear hX2 hX2l; refine step_append_rowN rfl (.tmp 33) (.tmp 38) rfl w6.heap.size [] (Word.turn (Dn.rel K) q) 0 (Word.turn (Dn.rel K) q).length _ (by rfl) Ho4.out rfl ta tc (by rfl) rfl Ht4.out.row (by have := Hs1.out; have := Hs2.out; have := Hs3.out; have := Hs4'.out; omega) (by omega) X2 HX2.out ?_; intro a5 c5 u5 hown5 hg5; have Hv5' := Lib.hid (own_off Hv4'.out hg5 (fun k hk e => by have := Hvlt.out k hk; have := (Ho4.out.lt k e).1; omega)); have Hc5' := Lib.hid (Hc4.out.row hg5 hgw (fun k hk => by have := (Ho4.out.lt k hk).1; have := Hcur3.out.size; omega)); have Ho5 := Lib.hid hown5; have Hs5' := Lib.hid hg5.size; clear hown5 hg5)
        | (obtain ⟨X4, hX4⟩ : ∃ X4, X2 ++ [] = X4 := ⟨_, rfl⟩; have hX4l : X4.length = X2.length + 0 := (by rw [← hX4, List.length_append]; rfl); have h4l : X4.length ≤ 20 := (by omega); have HX4 := Lib.hid hX4; clear hX4 hX4l; refine step_append_rowN rfl (.tmp 39) (.tmp 42) rfl w6.heap.size X2 [] X2.length 0 _ (by rfl) Ho5.out rfl none 0 (by rfl) rfl (HA2r.out _ (own_at Hv5'.out)) (by have := Hs1.out; have := Hs2.out; have := Hs3.out; have := Hs4'.out; have := Hs5'.out; omega) (by omega) X4 HX4.out ?_; intro a6 c6 u6 hown6 hg6; have Hv6' := Lib.hid (own_off Hv5'.out hg6 (fun k hk e => by have := Hvlt.out k hk; have := (Ho5.out.lt k e).1; omega)); have Hc6' := Lib.hid (Hc5'.out.row hg6 hgw (fun k hk => by have := (Ho5.out.lt k hk).1; have := Hcur3.out.size; omega)); have Ho6 := Lib.hid (own_mono hown6 hNs); clear hown6 hg6))
      go_wp2_with fail
      refine (l1Once g 3 u6 Hc6'.out.1 (by omega) (by omega)).mono ?_
      rintro e u1 ⟨⟨once, rfl⟩, hcu, hgu⟩
      have Hvu := Lib.hid (own_cur Hv6'.out hgu hgv); have Hwu := Lib.hid (own_cur Ho6.out hgu hgN); have Hcu := Lib.hid (Hc6'.out.drawn hcu hgu)
      clear hcu hgu
      cases once with
      | false =>
        have Hfin := Lib.hid (show GaveG2 w (.returned (.tuple #[.int .i64 K, .slice none ([] : List Int).length 0, .slice a6 X4.length c6])) u1 from ⟨K, none, 0, ([] : List Int), a6, c6, X4, rfl, by omega, by omega, own_at Hvu.out, by omega, hvc, own_at Hwu.out, by omega, own_cap Hwu.out, below_of_only Hb1.out Hcu.out.2 Hg.out⟩)
        go_wp2
        go_ret3
        exact Hfin.out
      | true =>
        go_wp2_with fail
        refine (l2Draw g 6 (2 * K) 6 u1 Hcu.out.1 (by omega) (by omega) (by omega) rfl).mono ?_
        rintro e u2 ⟨yv, y, rfl, howny, hy6, hyL, hc8, hg8⟩
        obtain ⟨ya, yc, rfl⟩ := own_len howny
        have Hfin := Lib.hid (show GaveG2 w (.returned (.tuple #[.int .i64 K, .slice none ([] : List Int).length 0, .slice ya y.length yc])) u2 from ⟨K, none, 0, ([] : List Int), ya, yc, y, rfl, by omega, by omega, own_at (own_cur Hvu.out hg8 hgv), by omega, hvc, own_at howny, by omega, own_cap howny, below_of_only Hb1.out (Hcu.out.drawn hc8 hg8).2 Hg.out⟩)
        clear howny hc8 hg8 hyL
        go_wp2
        go_ret3
        exact Hfin.out
    · injection he with he1 he2 he3
      subst he3
      clear he2
      obtain ⟨o, ho⟩ : ∃ o : Nat, 0 = o := ⟨_, rfl⟩
      rw [ho] at he1
      subst he1
      clear ho
      obtain ⟨A2, hA2⟩ : ∃ A2, (if vc = t then some (⟨vb, o, none⟩ : Addr) else some ⟨vb, o + t, none⟩) = A2 := ⟨_, rfl⟩
      have HA2r := Lib.hid (show ∀ W, RowAt W (some ⟨vb, o, none⟩) (intCells v) → RowAt W A2 (intCells X3) from fun W h => by rw [← hA2, ← HX3.out]; exact cut_rowZ h k1 hvc)
      have HA1r := Lib.hid (show ∀ W, RowAt W (some ⟨vb, o, none⟩) (intCells v) → RowAt W (some ⟨vb, o, none⟩) (intCells X1) from fun W h => by rw [← HX1.out]; exact row_take h)
      have HvD := Lib.hid (own_below Hv6.out (below_made1 w6)); have HcD := Lib.hid (Hcur6.out.below (below_made1 w6))
      have hNs : w3.heap.size ≤ w6.heap.size := Hs6.out
      have HmD := Lib.hid (own_made1 w6)
      go_wp2
      go_region_law (first
        | (refine step_append_rowN rfl (.tmp 29) (.tmp 32) rfl w6.heap.size [] X1 0 t _ (by rfl) HmD.out rfl (some ⟨vb, o, none⟩) vc (by rfl) Hl1.out (HA1r.out _ (own_at HvD.out)) (by simp) (by simp; omega) X1 rfl ?_; intro a1 c1 u1 hown1 hg1; have Hv1 := Lib.hid (own_off HvD.out hg1 (fun k hk e => by have := Hvlt.out k hk; have e2 : w6.heap.size = k := Option.some.inj e; omega)); have Hc1 := Lib.hid (HcD.out.row hg1 hgw (fun k hk => by have e2 : w6.heap.size = k := Option.some.inj hk; have := Hcur3.out.size; omega)); have Ho1 := Lib.hid hown1; have Hs1 := Lib.hid (show w6.heap.size ≤ u1.heap.size from Nat.le_trans (by simp) hg1.size); clear hown1 hg1)
        | (go_simp; go_at_call 59; refine (spec_Relator K u1).mono ?_; rintro e u2 ⟨ra, rc, rfl, hrc, hrcm, hfr, hb2⟩; have Hr2 := Lib.hid hfr; have Hv2 := Lib.hid (own_below Hv1.out hb2); have Ho2 := Lib.hid (own_below Ho1.out hb2); have Hc2 := Lib.hid (Hc1.out.below hb2); have Hs2 := Lib.hid hb2.size; clear hfr hb2)
        | (go_simp; go_at_call 75; refine (l1Below g 8 u2 Hc2.out.1 (by omega) (by omega)).mono ?_; rintro e u3 ⟨⟨q, rfl, hq0, hq1⟩, hc3, hg3⟩; have Hv3' := Lib.hid (own_cur Hv2.out hg3 hgv); have Ho3 := Lib.hid (own_cur Ho2.out hg3 (Nat.lt_of_lt_of_le hgN hNs)); have Hc3 := Lib.hid (Hc2.out.drawn hc3 hg3); have Hr3 := Lib.hid (Hr2.out.keeps hg3 (fun k hk => by injection hk with hk; have := Hs1.out; omega)); have Hs3 := Lib.hid hg3.size; clear hc3 hg3)
        | (go_simp; go_at_call 98; refine (spec_l2Turn ra rc (Dn.rel K) q u3 Hr3.out.row (by have := Dn.rel_len8 K; omega) hrc (by omega) (by omega)).mono ?_; rintro e u4 ⟨ta, tc, rfl, htc, htcm, hft, hb4⟩; have hT8 : (Word.turn (Dn.rel K) q).length ≤ 8 := (by rw [Word.turn_len]; exact Dn.rel_len8 K); have Ht4 := Lib.hid hft; have Hv4' := Lib.hid (own_below Hv3'.out hb4); have Ho4 := Lib.hid (own_below Ho3.out hb4); have Hc4 := Lib.hid (Hc3.out.below hb4); have Hs4' := Lib.hid hb4.size; clear hft hb4)
        | (obtain ⟨X2, hX2⟩ : ∃ X2, X1 ++ Word.turn (Dn.rel K) q = X2 := ⟨_, rfl⟩; have hX2l : X2.length = X1.length + (Word.turn (Dn.rel K) q).length := (by rw [← hX2, List.length_append]); have h2l : X2.length ≤ 14 := (by omega); have HX2 := Lib.hid hX2; clear hX2 hX2l; refine step_append_rowN rfl (.tmp 33) (.tmp 38) rfl w6.heap.size X1 (Word.turn (Dn.rel K) q) X1.length (Word.turn (Dn.rel K) q).length _ (by rfl) Ho4.out rfl ta tc (by rfl) rfl Ht4.out.row (by have := Hs1.out; have := Hs2.out; have := Hs3.out; have := Hs4'.out; omega) (by omega) X2 HX2.out ?_; intro a5 c5 u5 hown5 hg5; have Hv5' := Lib.hid (own_off Hv4'.out hg5 (fun k hk e => by have := Hvlt.out k hk; have := (Ho4.out.lt k e).1; omega)); have Hc5' := Lib.hid (Hc4.out.row hg5 hgw (fun k hk => by have := (Ho4.out.lt k hk).1; have := Hcur3.out.size; omega)); have Ho5 := Lib.hid hown5; have Hs5' := Lib.hid hg5.size; clear hown5 hg5)
        | (obtain ⟨X4, hX4⟩ : ∃ X4, X2 ++ X3 = X4 := ⟨_, rfl⟩; have hX4l : X4.length = X2.length + X3.length := (by rw [← hX4, List.length_append]); have h4l : X4.length ≤ 20 := (by omega); have HX4 := Lib.hid hX4; clear hX4 hX4l; refine step_append_rowN rfl (.tmp 39) (.tmp 42) rfl w6.heap.size X2 X3 X2.length (v.length - t) _ (by rfl) Ho5.out rfl A2 (vc - t) (by rfl) Hl3.out (HA2r.out _ (own_at Hv5'.out)) (by have := Hs1.out; have := Hs2.out; have := Hs3.out; have := Hs4'.out; have := Hs5'.out; omega) (by omega) X4 HX4.out ?_; intro a6 c6 u6 hown6 hg6; have Hv6' := Lib.hid (own_off Hv5'.out hg6 (fun k hk e => by have := Hvlt.out k hk; have := (Ho5.out.lt k e).1; omega)); have Hc6' := Lib.hid (Hc5'.out.row hg6 hgw (fun k hk => by have := (Ho5.out.lt k hk).1; have := Hcur3.out.size; omega)); have Ho6 := Lib.hid (own_mono hown6 hNs); clear hown6 hg6))
      go_wp2_with fail
      refine (l1Once g 3 u6 Hc6'.out.1 (by omega) (by omega)).mono ?_
      rintro e u1 ⟨⟨once, rfl⟩, hcu, hgu⟩
      have Hvu := Lib.hid (own_cur Hv6'.out hgu hgv); have Hwu := Lib.hid (own_cur Ho6.out hgu hgN); have Hcu := Lib.hid (Hc6'.out.drawn hcu hgu)
      clear hcu hgu
      cases once with
      | false =>
        have Hfin := Lib.hid (show GaveG2 w (.returned (.tuple #[.int .i64 K, .slice (some ⟨vb, o, none⟩) v.length vc, .slice a6 X4.length c6])) u1 from ⟨K, (some ⟨vb, o, none⟩), vc, v, a6, c6, X4, rfl, by omega, by omega, own_at Hvu.out, by omega, hvc, own_at Hwu.out, by omega, own_cap Hwu.out, below_of_only Hb1.out Hcu.out.2 Hg.out⟩)
        go_wp2
        go_ret3
        exact Hfin.out
      | true =>
        go_wp2_with fail
        refine (l2Draw g 6 (2 * K) 6 u1 Hcu.out.1 (by omega) (by omega) (by omega) rfl).mono ?_
        rintro e u2 ⟨yv, y, rfl, howny, hy6, hyL, hc8, hg8⟩
        obtain ⟨ya, yc, rfl⟩ := own_len howny
        have Hfin := Lib.hid (show GaveG2 w (.returned (.tuple #[.int .i64 K, .slice (some ⟨vb, o, none⟩) v.length vc, .slice ya y.length yc])) u2 from ⟨K, (some ⟨vb, o, none⟩), vc, v, ya, yc, y, rfl, by omega, by omega, own_at (own_cur Hvu.out hg8 hgv), by omega, hvc, own_at howny, by omega, own_cap howny, below_of_only Hb1.out (Hcu.out.drawn hc8 hg8).2 Hg.out⟩)
        clear howny hc8 hg8 hyL
        go_wp2
        go_ret3
        exact Hfin.out
set_option maxRecDepth 10000 in
set_option maxHeartbeats 1000000 in
theorem drawAreEqualWords (a : Option Addr) (c : Nat) (l : List Int) (w : World) (ha : RowAt w a (byteCells l)) (hb : ∀ x ∈ l, 0 ≤ x ∧ x ≤ 255) (hsz : l.length ≤ 1048576) :
    Calls Try.prog 49 #[.slice a l.length c] w (GaveG2 w) := by
  have H := Lib.hid (l8Two a c l w ha hb hsz)
  clear ha hb hsz
  go_enter Try.func49, Try.ntmps49
  go_wp2_with fail
  refine H.out.mono ?_
  rintro e w1 hG
  have HG := Lib.hid hG
  obtain ⟨G, a1, c1, l1, a2, c2, l2, rfl, _⟩ := hG
  go_wp2
  go_ret3
  exact HG.out

set_option maxRecDepth 100000 in
set_option maxHeartbeats 4000000 in
theorem drawCommuteIn (a : Option Addr) (c : Nat) (l : List Int) (w : World) (ha : RowAt w a (byteCells l)) (hb : ∀ x ∈ l, 0 ≤ x ∧ x ≤ 255) (hsz : l.length ≤ 1048576) :
    Calls Try.prog 50 #[.slice a l.length c] w (GaveG2 w) := by
  go_enter Try.func50, Try.ntmps50
  go_wp2_with fail
  refine (l1New a c l w ha hb hsz).mono ?_
  rintro e w1 ⟨g, rfl, hg, hc1, hb1⟩
  have hgw := hc1.lt
  have Hcur1 := Lib.hid (show CurG w1 g w1 from ⟨hc1, World.grownBy.refl _ _⟩); have Hb1 := Lib.hid hb1; have Hg := Lib.hid hg
  clear ha hb hsz hc1 hb1 hg
  go_wp2_with fail
  refine (l1Below g 2 w1 Hcur1.out.1 (by omega) (by omega)).mono ?_
  rintro e w2 ⟨⟨G0, rfl, hG0, hG1⟩, hc2, hg2⟩
  have Hcur2 := Lib.hid (Hcur1.out.drawn hc2 hg2)
  have hK0 : 1 ≤ 1 + G0 := by omega
  have hK1 : 1 + G0 ≤ 2 := by omega
  clear hG0 hG1 hc2 hg2
  go_wp2_with fail
  generalize 1 + G0 = K at *
  refine (l2Draw g 3 (2 * K) 3 w2 Hcur2.out.1 (by omega) (by omega) (by omega) rfl).mono ?_
  rintro e w3 ⟨vv, v, rfl, hownv, hv6, hvL, hc3, hg3⟩
  obtain ⟨va, vc, rfl⟩ := own_len hownv
  have hgv : g < w2.heap.size := Nat.lt_of_lt_of_le hgw Hcur2.out.size
  have Hv3 := Lib.hid hownv; have Hcur3 := Lib.hid (Hcur2.out.drawn hc3 hg3)
  have hvc := own_cap hownv
  clear hownv hvL hc3 hg3
  go_wp2_with fail
  refine (l2Draw g 4 (2 * K) 4 w3 Hcur3.out.1 (by omega) (by omega) (by omega) rfl).mono ?_
  rintro e w4 ⟨yv, y, rfl, howny, hy6, hyL, hc4, hg4⟩
  obtain ⟨ya, yc, rfl⟩ := own_len howny
  have Hv4 := Lib.hid (own_cur Hv3.out hg4 hgv); have Hy4 := Lib.hid howny; have Hcur4 := Lib.hid (Hcur3.out.drawn hc4 hg4)
  have hgy : g < w3.heap.size := Nat.lt_of_lt_of_le hgw Hcur3.out.size
  have hyc := own_cap howny
  clear howny hyL hc4 hg4
  go_wp2_with fail
  refine (l1Once g 3 w4 Hcur4.out.1 (by omega) (by omega)).mono ?_
  rintro e w5 ⟨⟨once, rfl⟩, hc5, hg5⟩
  have Hv5 := Lib.hid (own_cur Hv4.out hg5 hgv); have Hy5 := Lib.hid (own_cur Hy4.out hg5 hgy); have Hcur5 := Lib.hid (Hcur4.out.drawn hc5 hg5)
  clear hc5 hg5
  cases once with
  | false =>
    have Hfin := Lib.hid (show GaveG2 w (.returned (.tuple #[.int .i64 K, .slice va v.length vc, .slice ya y.length yc])) w5 from ⟨K, va, vc, v, ya, yc, y, rfl, by omega, by omega, own_at Hv5.out, by omega, hvc, own_at Hy5.out, by omega, hyc, below_of_only Hb1.out Hcur5.out.2 Hg.out⟩)
    go_wp2
    go_ret3
    exact Hfin.out
  | true =>
    have Hm := Lib.hid (own_made (w := w5) rfl)
    have HvA := Lib.hid (Hv5.out.alloc (.cells #[] 3)); have HcA := Lib.hid (Hcur5.out.alloc (.cells #[] 3))
    have Hvlt := Lib.hid (show ∀ k, (Value.slice va v.length vc).ownBlock = some k → k < w5.heap.size from fun k hk => (Hv5.out.lt k hk).2)
    obtain ⟨X, hX⟩ : ∃ X, v ++ v = X := ⟨_, rfl⟩
    have hXl : X.length ≤ 6 := by rw [← hX, List.length_append]; omega
    have HX := Lib.hid hX
    clear hX
    go_wp2_with (first
      | (at_builtin; refine append_rowN rfl (.tmp 24) (.tmp 25) rfl w5.heap.size [] v _ rfl Hm.out va _ rfl (own_at HvA.out) (by simp) (by simp; omega) v rfl ?_; intro a6 c6 w6 hown6 hg6 hl6; have Hv6 := Lib.hid (own_off HvA.out hg6 (fun k hk e => by have := Hvlt.out k hk; have e2 : w5.heap.size = k := Option.some.inj e; omega)); have Hc6 := Lib.hid (HcA.out.row hg6 hgw (fun k hk => by have e2 : w5.heap.size = k := Option.some.inj hk; have := Hcur5.out.size; omega)); have Ho6 := Lib.hid hown6; have Hs6 := Lib.hid (show w5.heap.size ≤ w6.heap.size from Nat.le_trans (by simp) hg6.size); clear hown6 hg6 hl6)
      | (at_builtin; refine append_rowN rfl (.tmp 26) (.tmp 27) rfl w5.heap.size v v _ rfl Ho6.out va _ rfl (own_at Hv6.out) Hs6.out (by omega) X HX.out ?_; intro a7 c7 w7 hown7 hg7 hl7; have Hv7 := Lib.hid (own_off Hv6.out hg7 (fun k hk e => by have := Hvlt.out k hk; have := (Ho6.out.lt k e).1; omega)); have Hc7 := Lib.hid (Hc6.out.row hg7 hgw (fun k hk => by have := (Ho6.out.lt k hk).1; have := Hcur5.out.size; omega)); have Ho7 := Lib.hid hown7; clear hown7 hg7 hl7))
    have Hfin := Lib.hid (show GaveG2 w (.returned (.tuple #[.int .i64 K, .slice va v.length vc, .slice a7 X.length c7])) w7 from ⟨K, va, vc, v, a7, c7, X, rfl, by omega, by omega, own_at Hv7.out, by omega, hvc, own_at Ho7.out, by omega, own_cap Ho7.out, below_of_only Hb1.out Hc7.out.2 Hg.out⟩)
    go_ret3
    exact Hfin.out
end Go.Proofs.Ytfaagbmaekoogaa
namespace Go.Proofs.Ytfaagbmaekoogaa
open Go.RowKit

namespace Cls
theorem snoc_ind {α : Type} {p : List α → Prop} (h0 : p []) (h1 : ∀ l x, p l → p (l ++ [x])) (l : List α) : p l := by
  have key : ∀ r : List α, p r.reverse := by
    intro r
    induction r with
    | nil => exact h0
    | cons x r ih => rw [List.reverse_cons]; exact h1 _ _ ih
  simpa using key l.reverse
/-- What agrees at both ends of all that is merged agrees on the classes. -/
theorem ker_le {α : Type} {F : Nat → α} {l : List (Nat × Nat)} (h : ∀ p ∈ l, F p.1 = F p.2) {x y : Nat} (e : mergeAll l x = mergeAll l y) : F x = F y := by
  have key : ∀ l : List (Nat × Nat), (∀ p ∈ l, F p.1 = F p.2) → ∀ x y, mergeAll l x = mergeAll l y → F x = F y := by
    intro l
    refine snoc_ind (p := fun l => (∀ p ∈ l, F p.1 = F p.2) → ∀ x y, mergeAll l x = mergeAll l y → F x = F y) ?_ ?_ l
    · intro _ x y e; exact congrArg F e
    · intro l p ih h x y e
      have hp := h p (List.mem_append.2 (Or.inr (List.mem_singleton.2 rfl)))
      have ih' := ih (fun q hq => h q (List.mem_append.2 (Or.inl hq)))
      rw [mergeAll_snoc] at e
      unfold Cls.merge at e
      by_cases e1 : mergeAll l x = mergeAll l p.1
      · by_cases e2 : mergeAll l y = mergeAll l p.1
        · exact ih' x y (e1.trans e2.symm)
        · rw [if_pos e1, if_neg e2] at e
          exact (ih' _ _ e1).trans (hp.trans (ih' _ _ e))
      · by_cases e2 : mergeAll l y = mergeAll l p.1
        · rw [if_neg e1, if_pos e2] at e
          exact (ih' _ _ e).trans (hp.symm.trans (ih' _ _ e2).symm)
        · rw [if_neg e1, if_neg e2] at e
          exact ih' _ _ e
  exact key l h x y e
/-- Both ends of what is merged have one label. -/
theorem eq_of_mem {l : List (Nat × Nat)} {a b : Nat} (h : (a, b) ∈ l) : mergeAll l a = mergeAll l b := by
  have keep : ∀ (m : List (Nat × Nat)) (c : Nat → Nat) (x y : Nat), c x = c y → m.foldl Cls.merge c x = m.foldl Cls.merge c y := by
    intro m
    induction m with
    | nil => intro c x y e; exact e
    | cons p m ih => intro c x y e; exact ih _ x y (by unfold Cls.merge; rw [e])
  have key : ∀ (m : List (Nat × Nat)) (c : Nat → Nat), (a, b) ∈ m → m.foldl Cls.merge c a = m.foldl Cls.merge c b := by
    intro m
    induction m with
    | nil => intro c h; cases h
    | cons p m ih =>
      intro c h
      rcases List.mem_cons.1 h with rfl | h
      · refine keep m _ a b ?_
        unfold Cls.merge
        rw [if_pos rfl]
        split <;> rfl
      · exact ih _ h
  exact key l id h
theorem eq_append {l m : List (Nat × Nat)} {a b : Nat} (h : mergeAll l a = mergeAll l b) : mergeAll (l ++ m) a = mergeAll (l ++ m) b :=
  ker_le (F := mergeAll (l ++ m)) (fun p hp => eq_of_mem (List.mem_append.2 (Or.inl hp))) h
/-- Labels that part a list alike are as many. -/
theorem found_ker {f g : Nat → Nat} {ms : List Nat} (h : ∀ i ∈ ms, ∀ j ∈ ms, f i = f j ↔ g i = g j) : (found f ms).length = (found g ms).length := by
  refine snoc_ind (p := fun ms => (∀ i ∈ ms, ∀ j ∈ ms, f i = f j ↔ g i = g j) → (found f ms).length = (found g ms).length) ?_ ?_ ms h
  · intro _; rfl
  · intro l x ih h
    have ih' := ih (fun i hi j hj => h i (List.mem_append.2 (Or.inl hi)) j (List.mem_append.2 (Or.inl hj)))
    rw [found_snoc, found_snoc]
    unfold foundStep
    have hx : f x ∈ found f l ↔ g x ∈ found g l := by
      rw [found_mem, found_mem]
      constructor
      · rintro ⟨m, hm, e⟩
        exact ⟨m, hm, (h m (List.mem_append.2 (Or.inl hm)) x (List.mem_append.2 (Or.inr (List.mem_singleton.2 rfl)))).1 e⟩
      · rintro ⟨m, hm, e⟩
        exact ⟨m, hm, (h m (List.mem_append.2 (Or.inl hm)) x (List.mem_append.2 (Or.inr (List.mem_singleton.2 rfl)))).2 e⟩
    by_cases e : f x ∈ found f l
    · rw [if_pos e, if_pos (hx.1 e)]; exact ih'
    · rw [if_neg e, if_neg (fun h => e (hx.2 h)), List.length_append, List.length_append, ih']; rfl
theorem found_map (c : Nat → Nat) (f : Nat → Nat) (ms : List Nat) : found c (ms.map f) = found (fun m => c (f m)) ms := by
  unfold found
  rw [List.foldl_map]; rfl
/-- The same labels met are as many. -/
theorem found_same {c d : Nat → Nat} {ms ns : List Nat} (h : ∀ x, (∃ m ∈ ms, c m = x) ↔ ∃ n ∈ ns, d n = x) : (found c ms).length = (found d ns).length :=
  List.Perm.length_eq ((List.perm_ext_iff_of_nodup (found_nodup c ms) (found_nodup d ns)).2 fun x => by rw [found_mem, found_mem]; exact h x)
theorem tally_range {c : Nat → Nat} {n : Nat} (h : Ok c n) : tally c (List.range n) = (found c (List.range n)).length :=
  tally_found List.nodup_range (fun m hm => List.mem_range.2 (h.lt m (List.mem_range.1 hm))) (fun m hm => h.idem m (List.mem_range.1 hm))

/-- Pairs (a, b) as often as S a b e holds below e. -/
def oneTo (S : Nat → Nat → Nat → Bool) (a b e : Nat) : List (Nat × Nat) := ((List.range e).filter (S a b)).map fun _ => (a, b)
def lineTo (S : Nat → Nat → Nat → Bool) (m a j : Nat) : List (Nat × Nat) := (List.range j).flatMap fun b => oneTo S a b m
def tri (S : Nat → Nat → Nat → Bool) (m i j e : Nat) : List (Nat × Nat) := ((List.range i).flatMap fun a => lineTo S m a a) ++ lineTo S m i j ++ oneTo S i j e
section
variable {S : Nat → Nat → Nat → Bool} {m i j e : Nat}
theorem tri_zero : tri S m 0 0 0 = [] := by simp [tri, lineTo, oneTo]
theorem tri_yes (h : S i j e = true) : tri S m i j (e + 1) = tri S m i j e ++ [(i, j)] := by
  unfold tri oneTo
  rw [List.range_succ, List.filter_append, List.map_append, ← List.append_assoc, List.filter_cons, if_pos h]; rfl
theorem tri_no (h : S i j e = false) : tri S m i j (e + 1) = tri S m i j e := by
  unfold tri oneTo
  rw [List.range_succ, List.filter_append, List.map_append, List.filter_cons, if_neg (by rw [h]; exact Bool.false_ne_true)]; simp
theorem tri_line : tri S m i j m = tri S m i (j + 1) 0 := by
  unfold tri lineTo
  rw [List.range_succ, List.flatMap_append]
  simp [oneTo]
theorem tri_next : tri S m i i 0 = tri S m (i + 1) 0 0 := by
  unfold tri
  rw [List.range_succ, List.flatMap_append]
  simp [oneTo, lineTo]
theorem tri_mem {n : Nat} {p : Nat × Nat} : p ∈ tri S m n 0 0 ↔ p.1 < n ∧ p.2 < p.1 ∧ ∃ e, e < m ∧ S p.1 p.2 e = true := by
  unfold tri lineTo oneTo
  simp only [List.range_zero, List.flatMap_nil, List.filter_nil, List.map_nil, List.append_nil, List.mem_flatMap, List.mem_range, List.mem_map, List.mem_filter]
  constructor
  · rintro ⟨a, ha, b, hb, e, ⟨he, hs⟩, rfl⟩
    exact ⟨ha, hb, e, he, hs⟩
  · rintro ⟨h1, h2, e, he, hs⟩
    exact ⟨p.1, h1, p.2, h2, e, ⟨he, hs⟩, rfl⟩
theorem tri_lt {n : Nat} : ∀ p ∈ tri S m n 0 0, p.1 < n ∧ p.2 < n := fun p hp => by have := tri_mem.1 hp; omega
end
end Cls
end Go.Proofs.Ytfaagbmaekoogaa
namespace Go.Proofs.Ytfaagbmaekoogaa
open Go.RowKit

namespace Mp
/-- Each number less than the length, once. -/
def IsP (l : List Int) : Prop := (∀ x ∈ l, 0 ≤ x ∧ x < (l.length : Int)) ∧ l.Nodup
instance (l : List Int) : Decidable (IsP l) := by unfold IsP; exact inferInstance
def IsM (l : List Int) : Prop := 2 ≤ l.length ∧ l.length ≤ 24 ∧ l.length % 2 = 0 ∧ IsP l
instance (l : List Int) : Decidable (IsM l) := by unfold IsM; exact inferInstance
theorem isP_far {l : List Int} {i : Nat} {x : Int} (h : l[i]? = some x) (hx : ¬ (0 ≤ x ∧ x < (l.length : Int))) : ¬ IsP l := fun hp => hx (hp.1 x (get_mem h))
theorem isP_twice {l : List Int} {i : Nat} {x : Int} (h : l[i]? = some x) (hx : x ∈ l.take i) : ¬ IsP l := by
  rintro ⟨_, hn⟩
  obtain ⟨hi, e⟩ := List.getElem?_eq_some_iff.1 h
  have := List.nodup_append.1 (show (l.take i ++ l.drop i).Nodup by rw [List.take_append_drop]; exact hn)
  exact this.2.2 x hx x (by rw [List.drop_eq_getElem_cons hi, e]; exact List.mem_cons_self ..) rfl
/-- Where each number up to i is less than n and new. -/
def To (l : List Int) (i : Nat) : Prop := (∀ x ∈ l.take i, 0 ≤ x ∧ x < (l.length : Int)) ∧ (l.take i).Nodup
theorem To.zero (l : List Int) : To l 0 := ⟨by simp, by simp⟩
theorem To.step {l : List Int} {i : Nat} {x : Int} (h : To l i) (hx : l[i]? = some x) (h0 : 0 ≤ x ∧ x < (l.length : Int)) (hn : x ∉ l.take i) : To l (i + 1) := by
  obtain ⟨hi, rfl⟩ := List.getElem?_eq_some_iff.1 hx
  unfold To
  rw [List.take_succ_eq_append_getElem hi]
  refine ⟨fun y hy => ?_, ?_⟩
  · rcases List.mem_append.1 hy with hy | hy
    · exact h.1 y hy
    · rw [List.mem_singleton.1 hy]; exact h0
  · rw [List.nodup_append]
    refine ⟨h.2, by simp, fun a ha b hb => ?_⟩
    rw [List.mem_singleton.1 hb]
    rintro rfl; exact hn ha
theorem To.all {l : List Int} (h : To l l.length) : IsP l := by
  unfold To at h
  rw [List.take_of_length_le (Nat.le_refl _)] at h
  exact h
theorem take_mem {l : List Int} {i : Nat} {x y : Int} (h : l[i]? = some x) : y ∈ l.take (i + 1) ↔ (y ∈ l.take i ∨ y = x) := by
  obtain ⟨hi, rfl⟩ := List.getElem?_eq_some_iff.1 h
  rw [List.take_succ_eq_append_getElem hi, List.mem_append, List.mem_singleton]

/-- The dart that follows. -/
def at_ (l : List Int) (d : Nat) : Nat := (l.getD d 0).toNat
theorem at_get {l : List Int} (h : IsP l) {d : Nat} (hd : d < l.length) : l[d]? = some ((at_ l d : Nat) : Int) := by
  have := h.1 _ (List.getElem_mem hd)
  unfold at_
  rw [List.getD_eq_getElem?_getD, List.getElem?_eq_getElem hd]
  simp only [Option.getD_some]
  congr 1; omega
theorem at_lt {l : List Int} (h : IsP l) {d : Nat} (hd : d < l.length) : at_ l d < l.length := by
  have := h.1 _ (get_mem (at_get h hd)); omega
theorem at_inj {l : List Int} (h : IsP l) {d e : Nat} (hd : d < l.length) (he : e < l.length) (hh : at_ l d = at_ l e) : d = e := by
  have h1 := at_get h hd
  have h2 := at_get h he
  rw [List.getElem?_eq_getElem hd] at h1
  rw [List.getElem?_eq_getElem he, ← hh] at h2
  have h3 : l[d] = l[e] := by rw [Option.some.inj h1, Option.some.inj h2]
  have hp := List.pairwise_iff_getElem.1 (List.nodup_iff_pairwise_ne.1 h.2)
  rcases Nat.lt_trichotomy d e with h4 | h4 | h4
  · exact absurd h3 (hp d e hd he h4)
  · exact h4
  · exact absurd h3.symm (hp e d he hd h4)
theorem at_row {l : List Int} (h : IsP l) : Cls.row (at_ l) l.length = l := by
  apply List.ext_getElem?
  intro k
  by_cases hk : k < l.length
  · rw [Cls.row_get hk, at_get h hk]
  · rw [List.getElem?_eq_none (by rw [Cls.row_len]; omega), List.getElem?_eq_none (by omega)]
theorem isP_row {f : Nat → Nat} {n : Nat} (h1 : ∀ d, d < n → f d < n) (h2 : ∀ d e, d < n → e < n → f d = f e → d = e) : IsP (Cls.row f n) := by
  refine ⟨fun x hx => ?_, ?_⟩
  · unfold Cls.row at hx
    obtain ⟨k, hk, rfl⟩ := List.mem_map.1 hx
    have := h1 k (List.mem_range.1 hk)
    rw [Cls.row_len]; omega
  · unfold Cls.row
    rw [List.nodup_iff_pairwise_ne, List.pairwise_map, List.pairwise_iff_getElem]
    intro i j hi hj hij
    simp only [List.length_range] at hi hj
    simp only [List.getElem_range]
    intro e
    have := h2 i j hi hj (by omega)
    omega
theorem at_of_row {f : Nat → Nat} {n d : Nat} (hd : d < n) : at_ (Cls.row f n) d = f d := by
  unfold at_; rw [Cls.row_getD hd]; simp

/-- The other dart of an edge. -/
def mate (d : Nat) : Nat := if d % 2 = 0 then d + 1 else d - 1
theorem mate_mate (d : Nat) : mate (mate d) = d := by unfold mate; split <;> split <;> omega
theorem mate_lt {n d : Nat} (hn : n % 2 = 0) (hd : d < n) : mate d < n := by unfold mate; split <;> omega
theorem mate_half (d : Nat) : mate d / 2 = d / 2 := by unfold mate; split <;> omega
theorem mate_inj {d e : Nat} (h : mate d = mate e) : d = e := by have := congrArg mate h; rwa [mate_mate, mate_mate] at this

def dualF (l : List Int) (d : Nat) : Nat := at_ l (mate d)
def dual (l : List Int) : List Int := Cls.row (dualF l) l.length
def dualOf (l : List Int) : List Int := if IsM l then dual l else []
theorem dual_len (l : List Int) : (dual l).length = l.length := Cls.row_len _ _
theorem dual_isM {l : List Int} (h : IsM l) : IsM (dual l) := by
  obtain ⟨h1, h2, h3, h4⟩ := h
  refine ⟨by rw [dual_len]; exact h1, by rw [dual_len]; exact h2, by rw [dual_len]; exact h3, isP_row (fun d hd => at_lt h4 (mate_lt h3 hd)) (fun d e hd he hh => mate_inj (at_inj h4 (mate_lt h3 hd) (mate_lt h3 he) hh))⟩
theorem dualOf_len (l : List Int) : (dualOf l).length ≤ 24 := by
  unfold dualOf; split
  · rename_i h; rw [dual_len]; exact h.2.1
  · simp

/-- The inverse permutation, out of the first i darts. -/
def invTo (l : List Int) : Nat → Nat → Nat
  | 0 => fun _ => 0
  | i + 1 => fun x => if x = at_ l i then i else invTo l i x
def mirror (l : List Int) : List Int := Cls.row (invTo l l.length) l.length
def mirrorOf (l : List Int) : List Int := if IsM l then mirror l else []
theorem mirror_len (l : List Int) : (mirror l).length = l.length := Cls.row_len _ _
theorem mirrorOf_len (l : List Int) : (mirrorOf l).length ≤ 24 := by
  unfold mirrorOf; split
  · rename_i h; rw [mirror_len]; exact h.2.1
  · simp
theorem invTo_at {l : List Int} (h : IsP l) {i d : Nat} (hi : i ≤ l.length) (hd : d < i) : invTo l i (at_ l d) = d := by
  induction i with
  | zero => omega
  | succ i ih =>
    unfold invTo
    by_cases e : at_ l d = at_ l i
    · simp only [e, if_true]
      exact (at_inj h (by omega) (by omega) e).symm
    · simp only [e, if_false]
      refine ih (by omega) ?_
      rcases Nat.lt_or_ge d i with h2 | h2
      · exact h2
      · obtain rfl : d = i := by omega
        exact absurd rfl e

/-- The darts of a cycle, from d on, until one that was seen. -/
def cyc (f : Nat → Nat) : Nat → (Nat → Bool) → Nat → List Nat
  | 0, _, _ => []
  | k + 1, s, d => if s d then [] else d :: cyc f k (fun x => x == d || s x) (f d)
/-- What was seen, and the cycles. -/
def seen (s : Nat → Bool) (c : List Nat) : Nat → Bool := fun x => decide (x ∈ c) || s x
def cycStep (f : Nat → Nat) (n : Nat) (st : (Nat → Bool) × List (List Nat)) (k : Nat) : (Nat → Bool) × List (List Nat) :=
  if cyc f (n + 1) st.1 k = [] then st else (seen st.1 (cyc f (n + 1) st.1 k), st.2 ++ [cyc f (n + 1) st.1 k])
def cycTo (f : Nat → Nat) (n i : Nat) : (Nat → Bool) × List (List Nat) := (List.range i).foldl (cycStep f n) (fun _ => false, [])
theorem cycTo_zero (f : Nat → Nat) (n : Nat) : cycTo f n 0 = (fun _ => false, []) := rfl
theorem cycTo_succ (f : Nat → Nat) (n i : Nat) : cycTo f n (i + 1) = cycStep f n (cycTo f n i) i := by
  unfold cycTo; rw [List.range_succ, List.foldl_append]; rfl
def natRows (C : List (List Nat)) : List (List Int) := C.map fun c => c.map fun d => ((d : Nat) : Int)
def cycs (l : List Int) : List (List Nat) := (cycTo (at_ l) l.length l.length).2
def cycles (l : List Int) : List (List Int) := natRows (cycs l)
def cyclesOf (l : List Int) : List (List Int) := if IsM l then cycles l else []
def facesOf (l : List Int) : List (List Int) := if IsM l then cycles (dual l) else []

/-- A state of the inner loop: c was walked, from d on there is left cyc f k s' d. -/
structure Mid (f : Nat → Nat) (n : Nat) (s : Nat → Bool) (first : Nat) (c : List Nat) (d : Nat) : Prop where
  nodup : c.Nodup
  lt : ∀ x ∈ c, x < n
  new : ∀ x ∈ c, s x = false
  dlt : d < n
  whole : ∃ k, c.length + k = n + 1 ∧ cyc f (n + 1) s first = c ++ cyc f k (seen s c) d
theorem seen_snoc (s : Nat → Bool) (c : List Nat) (d : Nat) : seen s (c ++ [d]) = fun x => x == d || seen s c x := by
  funext x
  unfold seen
  by_cases h : x = d <;> by_cases h2 : x ∈ c <;> simp [h, h2]
theorem seen_nil (s : Nat → Bool) : seen s [] = s := by funext x; simp [seen]
theorem nodup_len : ∀ {n : Nat} {c : List Nat}, c.Nodup → (∀ x ∈ c, x < n) → c.length ≤ n
  | 0, c, _, hl => by
    cases c with
    | nil => exact Nat.le_refl _
    | cons x t => have := hl x (List.mem_cons_self ..); omega
  | n + 1, c, h, hl => by
    have := nodup_len (n := n) (c := c.erase n) (h.erase n) (fun x hx => by
      have h1 := (List.Nodup.mem_erase_iff h).1 hx
      have := hl x h1.2; omega)
    rw [List.length_erase] at this
    split at this <;> omega
theorem nodup_perm {n : Nat} {c : List Nat} (h : c.Nodup) (hl : ∀ x ∈ c, x < n) (hn : n ≤ c.length) : c.Perm (List.range n) := by
  refine (List.perm_ext_iff_of_nodup h List.nodup_range).2 fun k => ?_
  rw [List.mem_range]
  refine ⟨hl k, fun hk => Classical.byContradiction fun hno => ?_⟩
  have := nodup_len (n := n) (c := k :: c) (List.nodup_cons.2 ⟨hno, h⟩) (fun x hx => by
    rcases List.mem_cons.1 hx with rfl | hx
    · exact hk
    · exact hl x hx)
  simp at this; omega
theorem Mid.start (f : Nat → Nat) {n : Nat} (s : Nat → Bool) {first : Nat} (h : first < n) : Mid f n s first [] first :=
  ⟨List.nodup_nil, fun _ h => (by cases h), fun _ h => (by cases h), h, n + 1, by simp, by rw [seen_nil]; rfl⟩
theorem Mid.len {f : Nat → Nat} {n : Nat} {s : Nat → Bool} {first : Nat} {c : List Nat} {d : Nat} (h : Mid f n s first c d) : c.length ≤ n := nodup_len h.nodup h.lt
theorem Mid.step {f : Nat → Nat} {n : Nat} {s : Nat → Bool} {first : Nat} {c : List Nat} {d : Nat} (h : Mid f n s first c d) (hd : seen s c d = false) (hf : f d < n) : Mid f n s first (c ++ [d]) (f d) := by
  have hl := h.len
  obtain ⟨h1, h2, h3, h4, k, hk, hw⟩ := h
  have hd2 : d ∉ c ∧ s d = false := by unfold seen at hd; simpa using hd
  refine ⟨?_, fun x hx => ?_, fun x hx => ?_, hf, k - 1, by simp; omega, ?_⟩
  · rw [List.nodup_append]
    refine ⟨h1, by simp, fun a ha b hb => ?_⟩
    rw [List.mem_singleton.1 hb]; rintro rfl; exact hd2.1 ha
  · rcases List.mem_append.1 hx with hx | hx
    · exact h2 x hx
    · rw [List.mem_singleton.1 hx]; exact h4
  · rcases List.mem_append.1 hx with hx | hx
    · exact h3 x hx
    · rw [List.mem_singleton.1 hx]; exact hd2.2
  · obtain ⟨j, rfl⟩ : ∃ j, k = j + 1 := ⟨k - 1, by omega⟩
    rw [hw, seen_snoc]
    conv => lhs; unfold cyc
    rw [hd]
    simp
theorem Mid.stop {f : Nat → Nat} {n : Nat} {s : Nat → Bool} {first : Nat} {c : List Nat} {d : Nat} (h : Mid f n s first c d) (hd : seen s c d = true) : cyc f (n + 1) s first = c := by
  obtain ⟨_, _, _, _, k, hk, hw⟩ := h
  rw [hw]
  cases k with
  | zero => simp [cyc]
  | succ k => unfold cyc; rw [hd]; simp

/-- Connected parts. -/
def pair1 (l : List Int) (d : Nat) : List (Nat × Nat) := [(d, at_ l d), (d, mate d)]
def pairsTo (l : List Int) (i : Nat) : List (Nat × Nat) := (List.range i).flatMap (pair1 l)
theorem pairsTo_succ (l : List Int) (i : Nat) : pairsTo l (i + 1) = pairsTo l i ++ [(i, at_ l i)] ++ [(i, mate i)] := by
  unfold pairsTo; rw [List.range_succ, List.flatMap_append]; simp [pair1]
def ring (l : List Int) : Nat → Nat := Cls.mergeAll (pairsTo l l.length)
def parts (l : List Int) : Nat := Cls.tally (ring l) (List.range l.length)
def partsOf (l : List Int) : Int := if IsM l then (parts l : Int) else -1
theorem pairsTo_lt {l : List Int} (h : IsM l) {i : Nat} (hi : i ≤ l.length) : ∀ p ∈ pairsTo l i, p.1 < l.length ∧ p.2 < l.length := by
  intro p hp
  unfold pairsTo at hp
  obtain ⟨d, hd, hp⟩ := List.mem_flatMap.1 hp
  have hd' : d < l.length := by have := List.mem_range.1 hd; omega
  simp only [pair1, List.mem_cons, List.not_mem_nil, or_false] at hp
  rcases hp with rfl | rfl
  · exact ⟨hd', at_lt h.2.2.2 hd'⟩
  · exact ⟨hd', mate_lt h.2.2.1 hd'⟩
theorem ring_ok {l : List Int} (h : IsM l) : Cls.Ok (ring l) l.length := Cls.Ok.all (pairsTo_lt h (Nat.le_refl _))
def natsOf (l : List Int) : List Nat := l.map Int.toNat
theorem natsOf_row {l : List Int} (h : IsP l) : (natsOf l).map (fun k => ((k : Nat) : Int)) = l := by
  unfold natsOf
  rw [List.map_map]
  conv => rhs; rw [← List.map_id l]
  apply List.map_congr_left
  intro x hx
  have := h.1 x hx
  simp; omega
/-- A permutation has all darts as its members. -/
theorem parts_found {l : List Int} (h : IsM l) : parts l = (Cls.found (ring l) (natsOf l)).length := by
  unfold parts
  rw [Cls.tally_range (ring_ok h)]
  refine Cls.found_same fun x => ?_
  have hp := h.2.2.2
  constructor
  · rintro ⟨m, hm, rfl⟩
    -- every dart below n is a member
    have hm := List.mem_range.1 hm
    have hsub : (natsOf l).Perm (List.range l.length) := by
      have hnd : (natsOf l).Nodup := by
        have := hp.2
        rw [← natsOf_row hp, List.nodup_iff_pairwise_ne, List.pairwise_map] at this
        rw [List.nodup_iff_pairwise_ne]
        exact this.imp fun h e => h (by rw [e])
      refine nodup_perm hnd (fun y hy => ?_) (by simp [natsOf])
      obtain ⟨x, hx, rfl⟩ := List.mem_map.1 hy
      have := hp.1 x hx
      omega
    exact ⟨m, hsub.mem_iff.2 (List.mem_range.2 hm), rfl⟩
  · rintro ⟨m, hm, rfl⟩
    obtain ⟨x, hx, rfl⟩ := List.mem_map.1 hm
    have := hp.1 x hx
    exact ⟨_, List.mem_range.2 (by omega), rfl⟩
def genus (l : List Int) : Int := (parts l : Int) - (((cycs l).length : Int) - ((l.length / 2 : Nat) : Int) + ((cycs (dual l)).length : Int)).tdiv 2
def genusOf (l : List Int) : Int := if IsM l then genus l else -1

/-- The edge of two darts is left out. -/
def Edge (l : List Int) (e : Int) : Prop := IsM l ∧ 0 ≤ e ∧ e < ((l.length / 2 : Nat) : Int)
instance (l : List Int) (e : Int) : Decidable (Edge l e) := by unfold Edge; exact inferInstance
def DropOk (l : List Int) (e : Int) : Prop := Edge l e ∧ l.length ≠ 2
instance (l : List Int) (e : Int) : Decidable (DropOk l e) := by unfold DropOk; exact inferInstance
def skip (l : List Int) (e x : Nat) : Nat := if x / 2 = e then (if at_ l x / 2 = e then at_ l (at_ l x) else at_ l x) else x
def less (e x : Nat) : Nat := if e < x / 2 then x - 2 else x
def dropTo (l : List Int) (e i : Nat) : List Nat := ((List.range i).filter fun d => d / 2 != e).map fun d => less e (skip l e (at_ l d))
def dropN (l : List Int) (e : Nat) : List Nat := dropTo l e l.length
def drop (l : List Int) (e : Int) : List Int := if DropOk l e then (dropN l e.toNat).map (fun d => ((d : Nat) : Int)) else []
/-- A new edge. -/
def Room (l : List Int) : Prop := l.length + 2 ≤ 24
instance (l : List Int) : Decidable (Room l) := by unfold Room; exact inferInstance
def Dart (l : List Int) (a : Int) : Prop := 0 ≤ a ∧ a < (l.length : Int)
instance (l : List Int) (a : Int) : Decidable (Dart l a) := by unfold Dart; exact inferInstance
def AddOk (l : List Int) (a b : Int) : Prop := IsM l ∧ Dart l a ∧ Dart l b ∧ Room l
instance (l : List Int) (a b : Int) : Decidable (AddOk l a b) := by unfold AddOk; exact inferInstance
def upd (f : Nat → Nat) (a b : Nat) : Nat → Nat := fun k => if k = a then b else f k
/-- The dart d is laid behind the dart a. -/
def behind (f : Nat → Nat) (d a : Nat) : Nat → Nat := upd (upd f d (f a)) a d
def addF (l : List Int) (a b : Nat) : Nat → Nat := behind (behind (at_ l) l.length a) (l.length + 1) (if a = b then l.length else b)
def add (l : List Int) (a b : Int) : List Int := if AddOk l a b then Cls.row (addF l a.toNat b.toNat) (l.length + 2) else []
def SubOk (l : List Int) (e : Int) : Prop := Edge l e ∧ Room l
instance (l : List Int) (e : Int) : Decidable (SubOk l e) := by unfold SubOk; exact inferInstance
/-- n is laid behind d, and n + 1 in the place that d had. -/
def subF (l : List Int) (d : Nat) : Nat → Nat := fun k =>
  if k = d then l.length else if k = l.length then d else if k = l.length + 1 then (if at_ l d = d then l.length + 1 else at_ l d) else if at_ l k = d then l.length + 1 else at_ l k
def sub (l : List Int) (e : Int) : List Int := if SubOk l e then Cls.row (subF l (2 * e.toNat + 1)) (l.length + 2) else []
theorem drop_len (l : List Int) (e : Int) : (drop l e).length ≤ 24 := by
  unfold drop; split
  · rename_i h
    rw [List.length_map]
    unfold dropN dropTo
    rw [List.length_map]
    refine Nat.le_trans (List.length_filter_le _ _) ?_
    rw [List.length_range]; exact h.1.1.2.1
  · simp
theorem add_len (l : List Int) (a b : Int) : (add l a b).length ≤ 24 := by
  unfold add; split
  · rename_i h; rw [Cls.row_len]; exact h.2.2.2
  · simp
theorem sub_len (l : List Int) (e : Int) : (sub l e).length ≤ 24 := by
  unfold sub; split
  · rename_i h; rw [Cls.row_len]; exact h.2
  · simp
end Mp
end Go.Proofs.Ytfaagbmaekoogaa
namespace Go.Proofs.Ytfaagbmaekoogaa
open Go.RowKit

namespace Cv
/-- How many sheets. -/
def deg (L : List (List Int)) : Nat := (L.headD []).length
def Perms (L : List (List Int)) : Prop := (∀ p ∈ L, p.length = deg L ∧ Mp.IsP p) ∧ 1 ≤ L.length ∧ L.length ≤ 8 ∧ 1 ≤ deg L ∧ deg L ≤ 5
instance (l : List Int) : Decidable (Mp.IsP l) := by unfold Mp.IsP; exact inferInstance
instance (L : List (List Int)) : Decidable (Perms L) := by unfold Perms; exact inferInstance
/-- The permutation of a letter; the image of a sheet under it, under a word. -/
def perm (L : List (List Int)) (x : Int) : List Int := let p := L.getD (x.natAbs - 1) []; if x < 0 then Mp.mirror p else p
def img (L : List (List Int)) (s : Nat) (x : Int) : Nat := Mp.at_ (perm L x) s
def act (L : List (List Int)) (w : List Int) (s : Nat) : Nat := w.foldl (img L) s
def Fits (L : List (List Int)) (w : List Int) : Prop := ∀ x ∈ w, x.natAbs ≤ L.length
instance (L : List (List Int)) (w : List Int) : Decidable (Fits L w) := by unfold Fits; exact inferInstance
def Ok (L : List (List Int)) (w : List Int) : Prop := Perms L ∧ Word.IsW w ∧ Fits L w
instance (L : List (List Int)) (w : List Int) : Decidable (Ok L w) := by unfold Ok; exact inferInstance
def row (L : List (List Int)) (w : List Int) (n : Nat) : List Int := (List.range n).map fun s => ((act L w s : Nat) : Int)
def actW (L : List (List Int)) (w : List Int) : List Int := if Ok L w then row L w (deg L) else []
theorem row_len (L : List (List Int)) (w : List Int) (n : Nat) : (row L w n).length = n := by simp [row]
theorem row_snoc (L : List (List Int)) (w : List Int) (n : Nat) : row L w (n + 1) = row L w n ++ [((act L w n : Nat) : Int)] := by
  unfold row; rw [List.range_succ, List.map_append]; rfl
theorem act_take {L : List (List Int)} {w : List Int} {i : Nat} (h : i < w.length) (s : Nat) : act L (w.take (i + 1)) s = img L (act L (w.take i) s) w[i] := by
  unfold act; rw [List.take_succ_eq_append_getElem h, List.foldl_append]; rfl
theorem invTo_lt {l : List Int} : ∀ (n d : Nat), 0 < n → Mp.invTo l n d < n
  | 0, d, h => absurd h (by omega)
  | n + 1, d, _ => by
    show (if d = Mp.at_ l n then n else Mp.invTo l n d) < n + 1
    split
    · omega
    · cases n with
      | zero => show 0 < 1; omega
      | succ n => have := invTo_lt (l := l) (n + 1) d (by omega); omega
theorem mirror_isP {l : List Int} (h : Mp.IsP l) : Mp.IsP (Mp.mirror l) := by
  unfold Mp.mirror
  refine Mp.isP_row (fun d hd => invTo_lt _ d (by omega)) fun d e hd he hh => ?_
  have key : ∀ d, d < l.length → Mp.at_ l (Mp.invTo l l.length d) = d := by
    intro d hd
    have hm : ((d : Nat) : Int) ∈ l := by
      have hnd : (l.map Int.toNat).Nodup := by
        rw [List.nodup_iff_pairwise_ne, List.pairwise_map]
        refine List.Pairwise.imp_of_mem ?_ (List.nodup_iff_pairwise_ne.1 h.2)
        intro a b ha hb hab e
        have := h.1 a ha; have := h.1 b hb; omega
      have hp := Mp.nodup_perm (n := l.length) hnd (fun x hx => by
        obtain ⟨y, hy, rfl⟩ := List.mem_map.1 hx
        have := h.1 y hy; omega) (by simp)
      have : d ∈ l.map Int.toNat := hp.mem_iff.2 (List.mem_range.2 hd)
      obtain ⟨y, hy, e⟩ := List.mem_map.1 this
      have := h.1 y hy
      rwa [show ((d : Nat) : Int) = y by omega]
    obtain ⟨j, hj, e⟩ := List.mem_iff_getElem.1 hm
    have ha : Mp.at_ l j = d := by
      have := Mp.at_get h hj
      rw [List.getElem?_eq_getElem hj, e] at this
      have := Option.some.inj this; omega
    have := Mp.invTo_at h (Nat.le_refl _) hj
    rw [ha] at this
    rw [this, ha]
  have h1 := key d hd
  have h2 := key e he
  rw [hh] at h1
  exact h1.symm.trans h2
theorem perm_isP {L : List (List Int)} (h : Perms L) {x : Int} (hx : x ≠ 0) (hf : x.natAbs ≤ L.length) : Mp.IsP (perm L x) ∧ (perm L x).length = deg L := by
  have hi : x.natAbs - 1 < L.length := by omega
  have hm : L.getD (x.natAbs - 1) [] ∈ L := by
    rw [List.getD_eq_getElem?_getD, List.getElem?_eq_getElem hi]; exact List.getElem_mem hi
  obtain ⟨h1, h2⟩ := h.1 _ hm
  unfold perm
  simp only
  split
  · exact ⟨mirror_isP h2, by rw [Mp.mirror_len, h1]⟩
  · exact ⟨h2, h1⟩
theorem img_lt {L : List (List Int)} (h : Perms L) {x : Int} (hx : x ≠ 0) (hf : x.natAbs ≤ L.length) {s : Nat} (hs : s < deg L) : img L s x < deg L := by
  obtain ⟨h1, h2⟩ := perm_isP h hx hf
  have := Mp.at_lt h1 (d := s) (by omega)
  unfold img; omega
theorem act_lt {L : List (List Int)} (h : Perms L) : ∀ {w : List Int}, (∀ x ∈ w, x ≠ 0 ∧ x.natAbs ≤ L.length) → ∀ {s : Nat}, s < deg L → act L w s < deg L
  | [], _, s, hs => hs
  | x :: w, hw, s, hs => by
    have hx := hw x (List.mem_cons_self ..)
    exact act_lt h (w := w) (fun y hy => hw y (List.mem_cons_of_mem _ hy)) (img_lt h hx.1 hx.2 hs)
end Cv
end Go.Proofs.Ytfaagbmaekoogaa
namespace Go.Proofs.Ytfaagbmaekoogaa
open Go.RowKit

/-- The block g tells of the numbers below n whether they were seen. -/
def Flg (w : World) (g : Nat) (s : Nat → Bool) (n : Nat) : Prop := ∃ all, Blk w g 4 all ∧ ∀ k, k < n → all[k]? = some (.bool (s k))
section
variable {w w' : World} {g n : Nat} {s : Nat → Bool}
theorem Flg.lt (h : Flg w g s n) : g < w.heap.size := by obtain ⟨_, h, _⟩ := h; exact h.lt
theorem Flg.cell (h : Flg w g s n) {k : Nat} (hk : k < n) : w.cell? ⟨g, k, none⟩ = some (.bool (s k)) := by
  obtain ⟨all, h, hc⟩ := h
  rw [h.cell]; exact hc k hk
theorem Flg.frozen (h : Flg w g s n) (k : Nat) : w.frozen? ⟨g, k, none⟩ = false := by obtain ⟨_, h, _⟩ := h; exact h.frozen k
theorem Flg.put (h : Flg w g s n) {i : Nat} (b : Bool) (hi : i < n) : Flg (w.setCell ⟨g, i, none⟩ (.bool b)) g (fun k => if k = i then b else s k) n := by
  obtain ⟨all, h, hc⟩ := h
  refine ⟨_, h.put i _, fun k hk => ?_⟩
  rw [Array.getElem?_setIfInBounds]
  by_cases e : i = k
  · subst e
    have := (Array.getElem?_eq_some_iff.1 (hc i hi)).1
    simp [this]
  · have e' : ¬ k = i := fun h => e h.symm
    simp only [e, e', if_false]; exact hc k hk
theorem Flg.congr (h : Flg w g s n) {s' : Nat → Bool} (he : ∀ k, k < n → s k = s' k) : Flg w g s' n := by
  obtain ⟨all, h, hc⟩ := h
  exact ⟨all, h, fun k hk => by rw [hc k hk, he k hk]⟩
theorem Flg.below {B : Nat} (h : Flg w g s n) (hb : Below B w w') (hg : g < B) : Flg w' g s n := by
  obtain ⟨all, h, hc⟩ := h
  exact ⟨all, h.below hb hg, hc⟩
theorem Flg.grown {row : Option Nat} (h : Flg w g s n) (hb : w.grownBy w' row) (hg : some g ≠ row) : Flg w' g s n := by
  obtain ⟨all, h, hc⟩ := h
  exact ⟨all, h.grown hb hg, hc⟩
theorem Flg.alloc (h : Flg w g s n) (o : Obj) : Flg (w.alloc o) g s n := by
  obtain ⟨all, h, hc⟩ := h
  exact ⟨all, h.alloc o, hc⟩
theorem Flg.drewN (h : Flg w g s n) (m : Nat) : Flg (w.drewN m) g s n := h
end
theorem info_bool : (Try.prog.info? 4).map (fun i => (i.zero, i.size, i.bytes)) = some (some (.bool false), 1, 1) := by kernel_rfl
def unseen (n : Nat) : Array Value := (List.replicate n (Value.bool false)).toArray
theorem mk_unseen (n : Nat) (h1 : n ≤ 1048576) (w : World) : (Instr.makeSlice 39 (.int .i64 (n : Int)) (.int .i64 (n : Int))).run Try.prog w = .ok (.slice (some ⟨w.heap.size, 0, none⟩) n n) (w.alloc (.cells (unseen n) 4)) := by
  obtain ⟨i0, hi, hz0, hz1, hz2⟩ := info_parts info_bool
  have h := run_make_rowN (P := Try.prog) 39 4 i0 _ Try.underlying39 hi hz0 .i64 .i64 n n (Nat.le_refl _) (by rw [hz2]; omega) (by omega) w
  have e : madeCells (Value.bool false).cells (n * i0.size) = unseen n := by
    rw [hz1, Nat.mul_one]
    show madeCells #[Value.bool false] n = _
    rw [made_one]; rfl
  rw [e] at h
  exact h
theorem Flg.start (w : World) (n : Nat) : Flg (w.alloc (.cells (unseen n) 4)) w.heap.size (fun _ => false) n :=
  ⟨_, Blk.new w 4 _, fun k hk => by simp [unseen, hk]⟩

namespace Mp
/-- The numbers that were seen among the first i. -/
def had (l : List Int) (i : Nat) : Nat → Bool := fun k => decide (((k : Nat) : Int) ∈ l.take i)
theorem had_zero (l : List Int) (k : Nat) : had l 0 k = false := by simp [had]
theorem had_step {l : List Int} {i k : Nat} (h : l[i]? = some ((k : Nat) : Int)) (j : Nat) : (if j = k then true else had l i j) = had l (i + 1) j := by
  unfold had
  by_cases e : j = k
  · subst e
    rw [if_pos rfl]
    exact (decide_eq_true ((take_mem h).2 (Or.inr rfl))).symm
  · rw [if_neg e]
    refine decide_eq_decide.2 ?_
    rw [take_mem h]
    constructor
    · exact Or.inl
    · rintro (h1 | h1)
      · exact h1
      · exact absurd (by omega) e
theorem isP_iff {l : List Int} : To l l.length ↔ IsP l := by
  unfold To; rw [List.take_of_length_le (Nat.le_refl _)]; rfl
theorem isM_short {l : List Int} (h : ¬ (2 ≤ l.length ∧ l.length ≤ 24 ∧ l.length % 2 = 0)) : ¬ IsM l := fun hm => h ⟨hm.1, hm.2.1, hm.2.2.1⟩
theorem isM_perm {l : List Int} (h : 2 ≤ l.length ∧ l.length ≤ 24 ∧ l.length % 2 = 0) : decide (IsM l) = decide (IsP l) := decide_eq_decide.2 ⟨fun hm => hm.2.2.2, fun hp => ⟨h.1, h.2.1, h.2.2, hp⟩⟩
end Mp

set_option maxRecDepth 10000 in
set_option maxHeartbeats 1000000 in
theorem spec_l6Perm (a : Option Addr) (c : Nat) (l : List Int) (w : World) (ha : RowAt w a (intCells l)) (hl : l.length ≤ 1048576) :
    Calls Try.prog 152 #[.slice a l.length c] w fun e w' => e = .returned (.bool (decide (Mp.IsP l))) ∧ Below w.heap.size w w' := by
  have hmk := mk_unseen l.length hl
  have hst := Flg.start w l.length
  have hb0 := (Below.refl w.heap.size w).alloc (Nat.le_refl _) (.cells (unseen l.length) 4)
  obtain ⟨V, hV⟩ : ∃ V, decide (Mp.IsP l) = V := ⟨_, rfl⟩
  rw [hV]
  have HV := Lib.hid hV
  generalize hN : w.heap.size = N at *
  have HN := Lib.hid hN
  have Hst := Lib.hid hst; have Hb0 := Lib.hid hb0; have Ha := Lib.hid ha
  clear hst hb0 ha hV
  go_enter Try.func152, Try.ntmps152
  go_wp2
  go_loopw [2, 4] (fun rv iv wr => rv = .bool false ∧ ∃ i : Nat, i ≤ l.length ∧ iv = .int .i64 i ∧ Hid (Mp.To l i) ∧ Hid (Flg wr N (Mp.had l i) l.length) ∧ Hid (Below N w wr)) (fun _ iv _ => l.length - (intOf iv).toNat)
  case atStart => exact ⟨rfl, 0, by omega, rfl, Lib.hid (Mp.To.zero l), Lib.hid (Hst.out.congr fun k _ => (Mp.had_zero l k).symm), Hb0⟩
  case round =>
    obtain ⟨rfl, i, hi, rfl, hto, hf, hb⟩ := hrel
    by_cases hlt : i < l.length
    · obtain ⟨x, hx⟩ := get_some hlt
      obtain ⟨b, o, rfl, hbw, hcell⟩ := intCells_get? (Ha.out.below (by rw [HN.out]; exact hb.out)) hx
      have hwr : IntKind.i64.wrap ((l.length : Int) - 1) = (l.length : Int) - 1 := wrap_small (by omega) (by omega)
      have hc := fun W => spec_l1In x 0 ((l.length : Int) - 1) W
      by_cases h0 : 0 ≤ x ∧ x ≤ (l.length : Int) - 1
      · rw [decide_eq_true h0] at hc
        obtain ⟨k, rfl⟩ : ∃ k : Nat, x = ((k : Nat) : Int) := ⟨x.toNat, by omega⟩
        have hk : k < l.length := by omega
        have hseen := hf.out.cell hk
        have hfz := hf.out.frozen k
        by_cases hm : ((k : Nat) : Int) ∈ l.take i
        · rw [show Mp.had l i k = true from decide_eq_true hm] at hseen
          have hno : V = false := by rw [← HV.out]; exact decide_eq_false (Mp.isP_twice hx hm)
          have Hno := Lib.hid hno; have Hc := Lib.hid hc; have Hx := Lib.hid hx
          clear hno hc hm hx h0
          go_wp2_with fail
          refine (Hc.out _).mono ?_
          rintro e w1 ⟨rfl, rfl⟩
          go_wp2
          go_ret
          exact ⟨by rw [Hno.out]; rfl, hb.out⟩
        · rw [show Mp.had l i k = false from decide_eq_false hm] at hseen
          have Hc := Lib.hid hc
          have Hto := Lib.hid (hto.out.step hx ⟨h0.1, by omega⟩ hm)
          have Hput := Lib.hid (hf.out.put true hk)
          have Hstep := Lib.hid (Mp.had_step hx)
          have Hb := Lib.hid (hb.out.setCell (p := ⟨N, k, none⟩) (Nat.le_refl _) (.bool true))
          have Hx := Lib.hid hx
          clear hc hm hx h0
          go_wp2_with fail
          refine (Hc.out _).mono ?_
          rintro e w1 ⟨rfl, rfl⟩
          go_wp2
          go_roundw
          case rel => exact ⟨rfl, i + 1, by omega, by go_num, Hto, Lib.hid (Hput.out.congr fun j _ => Hstep.out j), Hb⟩
          case measure => simp [intOf]; omega
      · rw [decide_eq_false h0] at hc
        have hno : V = false := by rw [← HV.out]; exact decide_eq_false (Mp.isP_far hx (fun h => h0 ⟨h.1, by omega⟩))
        have Hno := Lib.hid hno; have Hc := Lib.hid hc
        clear hno hc hx h0
        go_wp2_with fail
        refine (Hc.out _).mono ?_
        rintro e w1 ⟨rfl, rfl⟩
        go_wp2
        go_ret
        exact ⟨by rw [Hno.out]; rfl, hb.out⟩
    · obtain rfl : i = l.length := by omega
      have hy : V = true := by rw [← HV.out]; exact decide_eq_true (Mp.isP_iff.1 hto.out)
      have Hy := Lib.hid hy; clear hy
      go_wp2
      go_ret
      exact ⟨by rw [Hy.out]; rfl, hb.out⟩




theorem xor_mate : ∀ d : Nat, d < 64 → bits .xor .i64 ((d : Nat) : Int) 1 = ((Mp.mate d : Nat) : Int) := by decide +kernel
theorem rem_mate {d : Nat} (h : d < 1000) : ((d : Nat) : Int) + 1 - 2 * ((d : Nat) : Int).tmod 2 = ((Mp.mate d : Nat) : Int) := by
  rw [show ((d : Nat) : Int).tmod 2 = ((d % 2 : Nat) : Int) from rfl]
  unfold Mp.mate; split <;> omega
end Go.Proofs.Ytfaagbmaekoogaa
namespace Go.Proofs.Ytfaagbmaekoogaa
open Go.RowKit

/-- A row that a call has made. -/
theorem lab_givesP {w w' : World} {g n : Nat} {f : Nat → Nat} (h : Lab w' g f n) (hg : w.heap.size ≤ g) (hn : n ≤ maxLen) (hb : Below w.heap.size w w') : Gives w (Cls.row f n) (.returned (.slice (some ⟨g, 0, none⟩) n n)) w' := by
  obtain ⟨all, h1, h2⟩ := h
  refine ⟨_, n, by rw [Cls.row_len], by rw [Cls.row_len]; exact Nat.le_refl _, hn, Or.inr ⟨g, 0, all, rfl, hg, h1, fun i v hv => ?_⟩, hb⟩
  have hi : i < n := by
    have := (List.getElem?_eq_some_iff.1 hv).1
    rwa [intCells_len, Cls.row_len] at this
  rw [Nat.zero_add, h2 i hi]
  rw [intCells_get (by rw [Cls.row_len]; exact hi)] at hv
  have hr : (Cls.row f n)[i]'(by rw [Cls.row_len]; exact hi) = ((f i : Nat) : Int) := by simp [Cls.row]
  rw [hr] at hv
  exact hv
set_option maxRecDepth 100000 in
theorem mk_zerosP (n : Nat) (h1 : n ≤ 1000) (w : World) : (Instr.makeSlice 42 (.int .i64 (n : Int)) (.int .i64 (n : Int))).run Try.prog w = .ok (.slice (some ⟨w.heap.size, 0, none⟩) n n) (w.alloc (.cells (intCells (Cls.row (fun _ => 0) n)).toArray 3)) := by
  obtain ⟨i0, hi, hz0, hz1, hz2⟩ := info_parts info_int
  have h := run_make_rowN (P := Try.prog) 42 3 i0 _ Try.underlying42 hi hz0 .i64 .i64 n n (Nat.le_refl _) (by rw [hz2]; omega) (by omega) w
  have e : madeCells (Value.int .i64 0).cells (n * i0.size) = (intCells (Cls.row (fun _ => 0) n)).toArray := by
    rw [hz1, Nat.mul_one]
    show madeCells #[Value.int .i64 0] n = _
    rw [made_one]
    congr 1
    apply List.ext_getElem?
    intro k
    by_cases hk : k < n
    · simp [intCells, Cls.row, hk]
    · rw [List.getElem?_eq_none (by simp; omega), List.getElem?_eq_none (by rw [intCells_len, Cls.row_len]; omega)]
  rw [e] at h
  exact h

set_option maxRecDepth 10000 in
set_option maxHeartbeats 1000000 in
set_option maxRecDepth 10000 in
set_option maxHeartbeats 1000000 in
theorem spec_l6InverseP (a : Option Addr) (c : Nat) (l : List Int) (w : World) (ha : RowAt w a (intCells l)) (hn : l.length ≤ 1000) (hM : Mp.IsP l) :
    Calls Try.prog 154 #[.slice a l.length c] w fun e w' => Gives w (Mp.mirror l) e w' := by
  have hmk := mk_zerosP l.length (by omega)
  have hst := Lab.of_blk (Blk.new w 3 (intCells (Cls.row (fun _ => 0) l.length)).toArray)
  have hb0 := (Below.refl w.heap.size w).alloc (Nat.le_refl _) (.cells (intCells (Cls.row (fun _ => 0) l.length)).toArray 3)
  have hgv := fun w' (h : Lab w' w.heap.size (Mp.invTo l l.length) l.length) (hb : Below w.heap.size w w') => lab_givesP h (Nat.le_refl _) (by unfold maxLen; omega) hb
  generalize hN : w.heap.size = N at *
  have HN := Lib.hid hN
  have Hst := Lib.hid hst; have Hb0 := Lib.hid hb0; have Ha := Lib.hid ha; have HM := Lib.hid hM; have Hgv := Lib.hid hgv
  clear hst hb0 ha hM hgv
  go_enter Try.func154, Try.ntmps154
  go_wp2
  go_loopw [4] (fun iv wr => ∃ i : Nat, i ≤ l.length ∧ iv = .int .i64 i ∧ Hid (Below N w wr) ∧ Hid (Lab wr N (Mp.invTo l i) l.length)) (fun iv _ => l.length - (intOf iv).toNat)
  case atStart => exact ⟨0, by omega, rfl, Hb0, Hst⟩
  case round =>
    obtain ⟨i, hi, rfl, hb, hk⟩ := hrel
    by_cases hlt : i < l.length
    · have hx := Mp.at_get HM.out hlt
      have hyl := Mp.at_lt HM.out hlt
      obtain ⟨b, o, rfl, hbw, hcell⟩ := intCells_get? (Ha.out.below (by rw [HN.out]; exact hb.out)) hx
      have hdst := hk.out.cell hyl
      have hfz := hk.out.frozen (Mp.at_ l i)
      have hput := hk.out.put (b := i) hyl
      have hst := hb.out.setCell (p := ⟨N, Mp.at_ l i, none⟩) (Nat.le_refl _) (.int .i64 ((i : Nat) : Int))
      have Hnext : Hid (∀ k, (if k = Mp.at_ l i then i else Mp.invTo l i k) = Mp.invTo l (i + 1) k) := Lib.hid (fun k => rfl)
      generalize Mp.invTo l i (Mp.at_ l i) = z at hdst
      generalize Mp.at_ l i = y at *
      have Hput := Lib.hid hput; have Hst2 := Lib.hid hst
      clear hput hst hx
      go_wp2
      go_roundw
      case rel => exact ⟨i + 1, by omega, by go_num, Hst2, Lib.hid (Hput.out.congr fun k _ => Hnext.out k)⟩
      case measure => simp [intOf]; omega
    · obtain rfl : i = l.length := by omega
      go_wp2
      go_ret
      exact Hgv.out _ hk.out hb.out
end Go.Proofs.Ytfaagbmaekoogaa
namespace Go.Proofs.Ytfaagbmaekoogaa
open Go.RowKit

namespace Cv
theorem head_get {L : List (List Int)} (h : 0 < L.length) : ∃ r, L[0]? = some r ∧ r.length = deg L := by
  cases L with
  | nil => simp at h
  | cons r L => exact ⟨r, rfl, rfl⟩
theorem perms_bad {L : List (List Int)} {p : List Int} {i : Nat} (h : L[i]? = some p) (hb : ¬ (p.length = deg L ∧ Mp.IsP p)) : ¬ Perms L := fun hP => hb (hP.1 p (get_mem h))
theorem perms_all {L : List (List Int)} (h : ∀ i p, i < L.length → L[i]? = some p → p.length = deg L ∧ Mp.IsP p) : Perms L ↔ ((1 : Int) ≤ (L.length : Int) ∧ (L.length : Int) ≤ 8) ∧ ((1 : Int) ≤ (deg L : Int) ∧ (deg L : Int) ≤ 5) := by
  constructor
  · rintro ⟨_, h1, h2, h3, h4⟩; omega
  · rintro ⟨⟨h1, h2⟩, h3, h4⟩
    refine ⟨fun p hp => ?_, by omega, by omega, by omega, by omega⟩
    obtain ⟨i, hi, e⟩ := List.mem_iff_getElem.1 hp
    exact h i p hi (by rw [List.getElem?_eq_getElem hi, e])
end Cv

set_option maxRecDepth 10000 in
set_option maxHeartbeats 2000000 in
theorem spec_l9Perms (a : Option Addr) (c : Nat) (L : List (List Int)) (w : World) (ha : GridAt w a L) (hl : ∀ p ∈ L, p.length ≤ 1048576) (hn : L.length ≤ 1048576) :
    Calls Try.prog 133 #[.slice a L.length c] w fun e w' => e = .returned (.bool (decide (Cv.Perms L))) ∧ Below w.heap.size w w' := by
  have Ha := Lib.hid ha; have Hl := Lib.hid hl
  clear ha hl
  go_enter Try.func133, Try.ntmps133
  go_wp2
  go_loopw [3] (fun iv wr => ∃ i : Nat, i ≤ L.length ∧ iv = .int .i64 i ∧ Hid (∀ j p, j < i → L[j]? = some p → p.length = Cv.deg L ∧ Mp.IsP p) ∧ Hid (Below w.heap.size w wr)) (fun iv _ => L.length - (intOf iv).toNat)
  case atStart => exact ⟨0, by omega, rfl, Lib.hid (fun j p h => absurd h (by omega)), Lib.hid (Below.refl _ _)⟩
  case round =>
    obtain ⟨i, hi, rfl, hall, hb⟩ := hrel
    by_cases hlt : i < L.length
    · have dlt : decide (i < L.length) = true := decide_eq_true hlt
      obtain ⟨p, hp⟩ := get_some hlt
      obtain ⟨r0, hr0, hr0l⟩ := Cv.head_get (L := L) (by omega)
      obtain ⟨b, o, ai, ci, rfl, hbw, hcell, hrow⟩ := (Ha.out.below hb.out).get hp
      obtain ⟨b', o', a0, c0, he, hbw', hcell0, _⟩ := (Ha.out.below hb.out).get hr0
      cases he
      rw [Nat.add_zero] at hcell0
      have i0 : (0 : Int) ≤ (i : Int) := by omega
      have i1 : (i : Int) < (L.length : Int) := by omega
      have i2 : 0 < L.length := by omega
      have hpl := Hl.out p (get_mem hp)
      have hP := fun W (h : RowAt W ai (intCells p)) => spec_l6Perm ai ci p W h hpl
      have Hp := Lib.hid hp; have Hrow := Lib.hid hrow; have Hr0 := Lib.hid hr0l
      clear hp hr0 hrow hr0l
      by_cases hlen : p.length = r0.length
      · have dne : ((p.length : Int) != (r0.length : Int)) = false := by simp [hlen]
        by_cases hip : Mp.IsP p
        · rw [decide_eq_true hip] at hP
          have HP := Lib.hid hP
          have Hall := Lib.hid (show ∀ j q, j < i + 1 → L[j]? = some q → q.length = Cv.deg L ∧ Mp.IsP q from fun j q hj hq => by
            rcases Nat.lt_or_ge j i with h | h
            · exact hall.out j q h hq
            · obtain rfl : j = i := by omega
              rw [Hp.out] at hq
              cases hq
              exact ⟨hlen.trans Hr0.out, hip⟩)
          clear hP hlen hip
          go_wp2
          go_still_tail 15, (by kernel_rfl)
          change wpList _ _ _ _ _ wr.drew
          go_wp2_with fail
          refine (HP.out wr.drew (Hrow.out.below (Below.refl _ _).drew)).mono ?_
          rintro e w1 ⟨rfl, hb1⟩
          have Hb1 := Lib.hid (hb.out.drew.trans (hb1.mono hb.out.size)); clear hb1
          go_wp2
          go_roundw
          case rel => exact ⟨i + 1, by omega, by go_num, Hall, Hb1⟩
          case measure => simp [intOf]; omega
        · rw [decide_eq_false hip] at hP
          have HP := Lib.hid hP
          have Hd := Lib.hid (show decide (Cv.Perms L) = false from decide_eq_false (Cv.perms_bad Hp.out fun h => hip h.2))
          clear hP hlen hip
          go_wp2
          go_still_tail 15, (by kernel_rfl)
          change wpList _ _ _ _ _ wr.drew
          go_wp2_with fail
          refine (HP.out wr.drew (Hrow.out.below (Below.refl _ _).drew)).mono ?_
          rintro e w1 ⟨rfl, hb1⟩
          have Hb1 := Lib.hid (hb.out.drew.trans (hb1.mono hb.out.size)); clear hb1
          go_wp2
          go_ret
          exact ⟨by rw [Hd.out]; rfl, Hb1.out⟩
      · have dne : ((p.length : Int) != (r0.length : Int)) = true := by simp; omega
        have Hd := Lib.hid (show decide (Cv.Perms L) = false from decide_eq_false (Cv.perms_bad Hp.out fun h => hlen (h.1.trans Hr0.out.symm)))
        clear hP hlen
        go_wp2
        go_still_tail 15, (by kernel_rfl)
        change wpList _ _ _ _ _ wr.drew
        go_wp2
        go_ret
        exact ⟨by rw [Hd.out]; rfl, hb.out.drew⟩
    · obtain rfl : i = L.length := by omega
      have dlt : decide (L.length < L.length) = false := decide_eq_false (by omega)
      have Hall := Lib.hid (Cv.perms_all (L := L) hall.out)
      have hc1 := fun W => spec_l1In (L.length : Int) 1 8 W
      by_cases h1 : (1 : Int) ≤ (L.length : Int) ∧ (L.length : Int) ≤ 8
      · rw [decide_eq_true h1] at hc1
        have Hc1 := Lib.hid hc1
        obtain ⟨r0, hr0, hr0l⟩ := Cv.head_get (L := L) (by omega)
        obtain ⟨b', o', a0, c0, rfl, hbw', hcell0, _⟩ := (Ha.out.below hb.out).get hr0
        rw [Nat.add_zero] at hcell0
        have i2 : 0 < L.length := by omega
        have hc2 := fun W => spec_l1In (r0.length : Int) 1 5 W
        have Hres := Lib.hid (show decide (Cv.Perms L) = decide ((1 : Int) ≤ (r0.length : Int) ∧ (r0.length : Int) ≤ 5) from decide_eq_decide.2 (by rw [Hall.out, ← hr0l]; exact ⟨fun h => h.2, fun h => ⟨h1, h⟩⟩))
        generalize decide ((1 : Int) ≤ (r0.length : Int) ∧ (r0.length : Int) ≤ 5) = d at *
        have Hc2 := Lib.hid hc2
        clear hc1 hc2 h1 hr0 hr0l
        go_wp2_with fail
        refine (Hc1.out _).mono ?_
        rintro e w1 ⟨rfl, hw1⟩
        rw [hw1]; clear hw1 w1
        go_wp2_with fail
        refine (Hc2.out _).mono ?_
        rintro e w1 ⟨rfl, hw1⟩
        rw [hw1]; clear hw1 w1
        go_wp2
        go_ret
        exact ⟨by rw [Hres.out]; rfl, hb.out⟩
      · rw [decide_eq_false h1] at hc1
        have Hc1 := Lib.hid hc1
        have Hd := Lib.hid (show decide (Cv.Perms L) = false from decide_eq_false (by rw [Hall.out]; exact fun h => h1 h.1))
        clear hc1 h1
        go_wp2_with fail
        refine (Hc1.out _).mono ?_
        rintro e w1 ⟨rfl, hw1⟩
        rw [hw1]; clear hw1 w1
        go_wp2
        go_ret
        exact ⟨by rw [Hd.out]; rfl, hb.out⟩

set_option maxRecDepth 10000 in
set_option maxHeartbeats 2000000 in
theorem spec_l9Act (a aw : Option Addr) (c cw : Nat) (L : List (List Int)) (l : List Int) (s0 : Nat) (w : World) (ha : GridAt w a L) (haw : RowAt w aw (intCells l)) (hP : Cv.Perms L) (hl : l.length ≤ 1000) (hf : ∀ x ∈ l, x ≠ 0 ∧ x.natAbs ≤ L.length) (hs0 : s0 < Cv.deg L) :
    Calls Try.prog 135 #[.slice a L.length c, .slice aw l.length cw, .int .i64 (s0 : Int)] w fun e w' => e = .returned (.int .i64 ((Cv.act L l s0 : Nat) : Int)) ∧ Below w.heap.size w w' := by
  have Ha := Lib.hid ha; have Haw := Lib.hid haw; have HP := Lib.hid hP; have Hf := Lib.hid hf; have Hs0 := Lib.hid hs0
  clear ha haw hP hf hs0
  go_enter Try.func135, Try.ntmps135
  go_wp2
  go_loopw [2, 7, 8] (fun sv iv _ wr => ∃ i : Nat, i ≤ l.length ∧ iv = .int .i64 i ∧ sv = .int .i64 ((Cv.act L (l.take i) s0 : Nat) : Int) ∧ Hid (Below w.heap.size w wr)) (fun _ iv _ _ => l.length - (intOf iv).toNat)
  case atStart => exact ⟨0, by omega, rfl, rfl, Lib.hid (Below.refl _ _)⟩
  case round =>
    obtain ⟨i, hi, rfl, rfl, hb⟩ := hrel
    by_cases hlt : i < l.length
    · have dlt : decide (i < l.length) = true := decide_eq_true hlt
      obtain ⟨b, o, rfl, hbw, hcell⟩ := intCells_at (Haw.out.below hb.out) hlt
      obtain ⟨hx0, hx1⟩ := Hf.out _ (List.getElem_mem hlt)
      have hstep := Cv.act_take (L := L) hlt s0
      have hslt : Cv.act L (l.take i) s0 < Cv.deg L := Cv.act_lt HP.out (fun x hx => Hf.out x (List.mem_of_mem_take hx)) Hs0.out
      obtain ⟨hpP, hpl⟩ := Cv.perm_isP HP.out hx0 hx1
      have hlen8 := HP.out.2.2.1
      have h5 := HP.out.2.2.2.2
      obtain ⟨j, hj⟩ : ∃ j : Nat, l[i].natAbs = j + 1 := ⟨l[i].natAbs - 1, by omega⟩
      have hjl : j < L.length := by omega
      obtain ⟨p, hp⟩ := get_some hjl
      obtain ⟨b', o', ai, ci, rfl, hbw', hcell', hrow⟩ := (Ha.out.below hb.out).get hp
      have habs := fun W => spec_l3Abs l[i] W (by omega) (by omega)
      rw [hj, Int.natCast_add, show ((1 : Nat) : Int) = 1 from rfl] at habs
      have hpm := HP.out.1 p (get_mem hp)
      have hperm : Cv.perm L l[i] = if l[i] < 0 then Mp.mirror p else p := by
        unfold Cv.perm
        rw [hj, Nat.add_sub_cancel, List.getD_eq_getElem?_getD, hp]; rfl
      rw [show Cv.img L (Cv.act L (l.take i) s0) l[i] = Mp.at_ (Cv.perm L l[i]) (Cv.act L (l.take i) s0) from rfl] at hstep
      generalize Cv.act L (l.take i) s0 = s at *
      generalize hx : l[i] = x at *
      have Hx := Lib.hid hx; have Hstep := Lib.hid hstep; have Habs := Lib.hid habs; have Hrow := Lib.hid hrow; have Hpm := Lib.hid hpm
      have i0 : (0 : Int) ≤ (i : Int) := by omega
      have i1 : (i : Int) < (l.length : Int) := by omega
      have j0 : (0 : Int) ≤ (j : Int) := by omega
      have j1 : (j : Int) < (L.length : Int) := by omega
      have s2 : (0 : Int) ≤ (s : Int) := by omega
      clear hx hstep habs hrow hpm hp hj
      by_cases hneg : x < 0
      · have dneg : decide (x < 0) = true := decide_eq_true hneg
        rw [if_pos hneg] at hperm
        have hI := fun W (h : RowAt W ai (intCells p)) => spec_l6InverseP ai ci p W h (by have := Hpm.out.1; omega) Hpm.out.2
        rw [← hperm] at hI
        generalize Cv.perm L x = q at *
        have HI := Lib.hid hI; have HqP := Lib.hid hpP
        have s1 : s < q.length := by omega
        have s3 : (s : Int) < (q.length : Int) := by omega
        have Hat := Lib.hid (Mp.at_get hpP s1)
        clear hI hperm hpP hneg
        go_wp2_with fail
        refine (Habs.out _).mono ?_
        rintro e w1 ⟨rfl, hw1⟩
        rw [hw1]; clear hw1 w1
        go_wp2_with fail
        refine (HI.out wr Hrow.out).mono ?_
        rintro e w1 ⟨qa, qc, rfl, hqc, hqcm, hfq, hb1⟩
        obtain ⟨b2, o2, rfl, hbw2, hcell2⟩ := intCells_get? hfq.row Hat.out
        have Hb1 := Lib.hid (hb.out.trans (hb1.mono hb.out.size))
        clear hfq hb1
        go_wp2
        go_roundw
        case rel => exact ⟨i + 1, by omega, by go_num, by rw [Hstep.out], Hb1⟩
        case measure => simp [intOf]; omega
      · have dneg : decide (x < 0) = false := decide_eq_false hneg
        rw [if_neg hneg] at hperm
        rw [hperm] at hpP hpl Hstep
        have s1 : s < p.length := by omega
        have s3 : (s : Int) < (p.length : Int) := by omega
        obtain ⟨b2, o2, rfl, hbw2, hcell2⟩ := intCells_get? Hrow.out (Mp.at_get hpP s1)
        clear hperm hpP hneg
        go_wp2_with fail
        refine (Habs.out _).mono ?_
        rintro e w1 ⟨rfl, hw1⟩
        rw [hw1]; clear hw1 w1
        go_wp2
        go_roundw
        case rel => exact ⟨i + 1, by omega, by go_num, by rw [Hstep.out], hb⟩
        case measure => simp [intOf]; omega
    · obtain rfl : i = l.length := by omega
      rw [List.take_of_length_le (Nat.le_refl _)]
      have dlt : decide (l.length < l.length) = false := decide_eq_false (by omega)
      generalize hA : Cv.act L l s0 = A at *
      have HA := Lib.hid hA; clear hA
      go_wp2
      go_ret
      exact ⟨by rw [HA.out]; rfl, hb.out⟩
theorem Cv.actW_of {L : List (List Int)} {l : List Int} (h : Cv.Ok L l) : Cv.actW L l = Cv.row L l (Cv.deg L) := if_pos h
theorem Cv.actW_not {L : List (List Int)} {l : List Int} (h : ¬ Cv.Ok L l) : Cv.actW L l = [] := if_neg h
set_option maxRecDepth 10000 in
set_option maxHeartbeats 2000000 in
theorem spec_ActWord (a aw : Option Addr) (c cw : Nat) (L : List (List Int)) (l : List Int) (w : World) (ha : GridAt w a L) (hL : ∀ p ∈ L, p.length ≤ 1048576) (hn : L.length ≤ 1048576) (haw : RowAt w aw (intCells l)) (hl : l.length ≤ 1048576) :
    Calls Try.prog 68 #[.slice a L.length c, .slice aw l.length cw] w fun e w' => Gives w (Cv.actW L l) e w' := by
  have hcP := spec_l9Perms a c L w ha hL hn
  have hcW := fun W (hb : Below w.heap.size w W) => spec_IsWord aw cw l W (haw.below hb) hl
  have Ha := Lib.hid ha; have Haw := Lib.hid haw
  clear ha haw hL
  obtain ⟨i0, hi0, hz0, hz1, hz2⟩ := info_int_parts
  have Hi0 := Lib.hid hi0; have Hz0 := Lib.hid hz0; have Hz1 := Lib.hid hz1; have Hz2 := Lib.hid hz2
  clear hi0 hz0 hz1 hz2
  by_cases hP : Cv.Perms L
  · rw [decide_eq_true hP] at hcP
    by_cases hW : Word.IsW l
    · rw [decide_eq_true hW] at hcW
      have HcP := Lib.hid hcP; have HcW := Lib.hid hcW; have HP := Lib.hid hP; have HW := Lib.hid hW
      have hl24 := hW.2
      have hlen8 := hP.2.2.1
      have hlen1 := hP.2.1
      have h5 := hP.2.2.2.2
      clear hcP hcW hP hW
      go_enter Try.func68, Try.ntmps68
      go_wp2_with fail
      refine HcP.out.mono ?_
      rintro e w1 ⟨rfl, hb1⟩
      have Hb1 := Lib.hid hb1; clear hb1
      go_wp2_with fail
      refine (HcW.out w1 Hb1.out).mono ?_
      rintro e w2 ⟨rfl, hb2⟩
      have Hb2 := Lib.hid (Hb1.out.trans (hb2.mono Hb1.out.size)); clear hb2
      go_wp2
      go_loopw [5] (fun iv wr => ∃ i : Nat, i ≤ l.length ∧ iv = .int .i64 i ∧ Hid (∀ j x, j < i → l[j]? = some x → x.natAbs ≤ L.length) ∧ Hid (Below w.heap.size w wr)) (fun iv _ => l.length - (intOf iv).toNat)
      case atStart => exact ⟨0, by omega, rfl, Lib.hid (fun j x h => absurd h (by omega)), Hb2⟩
      case round =>
        obtain ⟨i, hi, rfl, hall, hb⟩ := hrel
        by_cases hlt : i < l.length
        · have dlt : decide (i < l.length) = true := decide_eq_true hlt
          obtain ⟨x, hx⟩ := get_some hlt
          obtain ⟨b, o, rfl, hbw, hcell⟩ := intCells_get? (Haw.out.below hb.out) hx
          obtain ⟨hx0, hx1, hx2⟩ := HW.out.1 x (get_mem hx)
          have habs := fun W => spec_l3Abs x W (by omega) (by omega)
          by_cases hf : x.natAbs ≤ L.length
          · have Hall := Lib.hid (show ∀ j y, j < i + 1 → l[j]? = some y → y.natAbs ≤ L.length from fun j y hj hy => by
              rcases Nat.lt_or_ge j i with h | h
              · exact hall.out j y h hy
              · obtain rfl : j = i := by omega
                rw [hx] at hy; cases hy; exact hf)
            have dgt : decide (L.length < x.natAbs) = false := decide_eq_false (by omega)
            have Habs := Lib.hid habs
            clear habs hx hf
            generalize x.natAbs = y at *
            go_wp2_with fail
            refine (Habs.out _).mono ?_
            rintro e w3 ⟨rfl, hw3⟩
            rw [hw3]; clear hw3 w3
            go_wp2
            go_roundw
            case rel => exact ⟨i + 1, by omega, by go_num, Hall, hb⟩
            case measure => simp [intOf]; omega
          · have Hno := Lib.hid (show ¬ Cv.Ok L l from fun h => hf (h.2.2 x (get_mem hx)))
            have dgt : decide (L.length < x.natAbs) = true := decide_eq_true (by omega)
            have Habs := Lib.hid habs
            clear habs hx hf
            generalize x.natAbs = y at *
            go_wp2_with fail
            refine (Habs.out _).mono ?_
            rintro e w3 ⟨rfl, hw3⟩
            rw [hw3]; clear hw3 w3
            go_wp2
            go_ret
            rw [Cv.actW_not Hno.out]
            exact own_gives (by exact own_mono (own_made (w := wr) rfl) hb.out.size) rfl (hb.out.alloc hb.out.size _)
        · obtain rfl : i = l.length := by omega
          have dlt : decide (l.length < l.length) = false := decide_eq_false (by omega)
          have hfit : Cv.Fits L l := fun x hx => by
            obtain ⟨j, hj, e⟩ := List.mem_iff_getElem.1 hx
            exact hall.out j x hj (by rw [List.getElem?_eq_getElem hj, e])
          have Hok := Lib.hid (show Cv.Ok L l from ⟨HP.out, HW.out, hfit⟩)
          have Hlet := Lib.hid (show ∀ x ∈ l, x ≠ 0 ∧ x.natAbs ≤ L.length from fun x hx => ⟨(HW.out.1 x hx).1, hfit x hx⟩)
          clear hfit hall
          obtain ⟨wo, rfl⟩ : ∃ wo : World, wo = wr := ⟨_, rfl⟩
          obtain ⟨N, hN⟩ : ∃ N, N = wo.heap.size := ⟨_, rfl⟩
          have HN := Lib.hid hN
          have Hm := Lib.hid (own_made (w := wo) hN.symm)
          have Hwo := Lib.hid hb.out.size
          have HbA := Lib.hid (hb.out.alloc hb.out.size (.cells #[] 3))
          clear hN hb
          go_wp2
          go_loopw [6, 7] (fun ov iv wr => ∃ i : Nat, i ≤ Cv.deg L ∧ iv = .int .i64 i ∧ wr.ownsRow N 3 1 ov i (intCells (Cv.row L l i)) ∧ Hid (Below w.heap.size w wr ∧ N ≤ wr.heap.size)) (fun _ iv _ => Cv.deg L - (intOf iv).toNat)
          case atStart => exact ⟨0, by omega, rfl, Hm.out, Lib.hid ⟨HbA.out, by rw [HN.out]; simp⟩⟩
          case round =>
            obtain ⟨i, hi, rfl, hown, hh⟩ := hrel
            obtain ⟨r0, hr0, hr0l⟩ := Cv.head_get (L := L) (by omega)
            obtain ⟨b', o', a0, c0, rfl, hbw', hcell0, _⟩ := (Ha.out.below hh.out.1).get hr0
            rw [Nat.add_zero] at hcell0
            have i2 : 0 < L.length := by omega
            have Hr0l := Lib.hid hr0l
            have hdr : r0.length ≤ 5 := by omega
            have hir : i ≤ r0.length := by omega
            clear hr0 hr0l
            by_cases hlt : i < r0.length
            · have dlt : decide (i < r0.length) = true := decide_eq_true hlt
              have hA := fun W (h : Below w.heap.size w W) => spec_l9Act (some ⟨b', o', none⟩) aw c cw L l i W (Ha.out.below h) (Haw.out.below h) HP.out (by omega) Hlet.out (by rw [← Hr0l.out]; exact hlt)
              have Hsn := Lib.hid (Cv.row_snoc L l i)
              generalize Cv.act L l i = v at *
              have HA := Lib.hid hA
              have Hown := Lib.hid hown
              clear hA hown
              go_wp2_with fail
              refine (HA.out wr hh.out.1).mono ?_
              rintro e w4 ⟨rfl, hb4⟩
              have Hb4 := Lib.hid (hh.out.1.trans (hb4.mono hh.out.1.size))
              have hown4 := own_keep Hown.out hb4 (fun k hk => (Hown.out.lt k hk).2)
              have hN4 : N ≤ w4.heap.size := Nat.le_trans hh.out.2 hb4.size
              have hq1 : i + 1 ≤ maxLen := by unfold maxLen; omega
              have hq2 : (i + 1) * 8 ≤ 140737488355328 := by omega
              obtain ⟨av, cv, rfl⟩ := own_len Hown.out
              clear hb4
              go_wp2_with (at_builtin; refine append_one rfl (.tmp 41) (.tmp 46) 42 rfl N 3 i0 _ 8 Try.underlying42 Hi0.out Hz0.out Hz1.out Hz2.out (by rfl) _ _ _ rfl hown4 (by rfl) _ rfl hq1 hq2 hN4 ?_; intro v1 w5 hown5 hg5 _)
              go_roundw
              case rel =>
                refine ⟨i + 1, by have := Hr0l.out; omega, by go_num, ?_, Lib.hid ⟨?_, ?_⟩⟩
                · rw [Hsn.out, ← intCells_snoc]; exact hown5
                · exact Below.grown (Hb4.out.alloc Hb4.out.size _) hg5 (by have := Hb4.out.size; simp; omega) (fun k hk => by have h1 := (hown4.lt k hk).1; have h2 := Hwo.out; have h3 := HN.out; omega)
                · have := hg5.size; simp at this; omega
              case measure => have := Hr0l.out; simp [intOf]; omega
            · have Hi := Lib.hid (show i = Cv.deg L by have := Hr0l.out; omega)
              have dlt : decide (i < r0.length) = false := decide_eq_false hlt
              have Hg := Lib.hid (own_gives (w := w) (l := Cv.row L l i) (own_mono hown (by have h1 := Hwo.out; have h2 := HN.out; omega)) (Cv.row_len L l i) hh.out.1)
              clear hown
              go_wp2
              go_ret
              rw [Cv.actW_of Hok.out, ← Hi.out]
              exact Hg.out
    · rw [decide_eq_false hW] at hcW
      have HcP := Lib.hid hcP; have HcW := Lib.hid hcW; have Hno := Lib.hid (show ¬ Cv.Ok L l from fun h => hW h.2.1)
      clear hcP hcW hP hW
      go_enter Try.func68, Try.ntmps68
      go_wp2_with fail
      refine HcP.out.mono ?_
      rintro e w1 ⟨rfl, hb1⟩
      have Hb1 := Lib.hid hb1; clear hb1
      go_wp2_with fail
      refine (HcW.out w1 Hb1.out).mono ?_
      rintro e w2 ⟨rfl, hb2⟩
      have Hb2 := Lib.hid (Hb1.out.trans (hb2.mono Hb1.out.size)); clear hb2
      go_wp2
      go_ret
      rw [Cv.actW_not Hno.out]
      exact own_gives (by exact own_mono (own_made (w := w2) rfl) Hb2.out.size) rfl (Hb2.out.alloc Hb2.out.size _)
  · rw [decide_eq_false hP] at hcP
    have HcP := Lib.hid hcP; have Hno := Lib.hid (show ¬ Cv.Ok L l from fun h => hP h.1)
    clear hcP hcW hP
    go_enter Try.func68, Try.ntmps68
    go_wp2_with fail
    refine HcP.out.mono ?_
    rintro e w1 ⟨rfl, hb1⟩
    have Hb1 := Lib.hid hb1; clear hb1
    go_wp2
    go_ret
    rw [Cv.actW_not Hno.out]
    exact own_gives (by exact own_mono (own_made (w := w1) rfl) Hb1.out.size) rfl (Hb1.out.alloc Hb1.out.size _)
end Go.Proofs.Ytfaagbmaekoogaa
namespace Go.Proofs.Ytfaagbmaekoogaa
open Go.RowKit

set_option maxRecDepth 10000 in
set_option maxHeartbeats 400000 in
theorem total_zero (a : Option Addr) (c : Nat) (l : List Int) (w : World) (ha : RowAt w a (intCells l)) (hl : l.length ≤ 1048576) (hz : ∀ x ∈ l, x = 0) :
    Calls Try.prog 65 #[.slice a l.length c] w fun e w' => e = .returned (.int .i64 0) ∧ Below w.heap.size w w' := by
  have Ha := Lib.hid ha; have Hz := Lib.hid hz
  clear ha hz
  go_enter Try.func65, Try.ntmps65
  go_wp2
  go_loopw [3, 4] (fun sv iv wr => ∃ i : Nat, i ≤ l.length ∧ iv = .int .i64 i ∧ sv = .int .i64 0 ∧ Hid (Below w.heap.size w wr)) (fun _ iv _ => l.length - (intOf iv).toNat)
  case atStart => exact ⟨0, by omega, rfl, rfl, Lib.hid (Below.refl _ _)⟩
  case round =>
    obtain ⟨i, hi, rfl, rfl, hb⟩ := hrel
    by_cases hlt : i < l.length
    · obtain ⟨b, o, rfl, hbw, hcell⟩ := intCells_at (Ha.out.below hb.out) hlt
      rw [Hz.out _ (List.getElem_mem hlt)] at hcell
      have dlt : decide (i < l.length) = true := decide_eq_true hlt
      have h0 : (0 : Int) ≤ (i : Int) := by omega
      have h1 : (i : Int) < (l.length : Int) := by omega
      go_wp2
      go_roundw
      case rel => exact ⟨i + 1, by omega, by go_num, rfl, hb⟩
      case measure => simp [intOf]; omega
    · obtain rfl : i = l.length := by omega
      have dlt : decide (l.length < l.length) = false := decide_eq_false (by omega)
      go_wp2
      go_ret
      exact ⟨rfl, hb.out⟩
end Go.Proofs.Ytfaagbmaekoogaa
namespace Go.Proofs.Ytfaagbmaekoogaa
open Go.ChangeShapes Go.WideShapes Go.ChangeAt Go.RowKit Go.WideMaps Go.WideElems
theorem Read.cellsU8 : Try.prog.cellsOf 5 = 1 := by kernel_rfl
theorem Read.lt_of_cell8 {w : World} {b o : Nat} {v : Value} (h : w.cell? ⟨b, o, none⟩ = some v) : b < w.heap.size := by
  rcases Nat.lt_or_ge b w.heap.size with hl | hl
  · exact hl
  · simp [World.cell?, Array.getElem?_eq_none hl] at h
set_option maxRecDepth 100000 in
theorem Read.bytes_of {H : Type} {enc : TypeId × Value → H} {W : World} {base : Nat} {v : Value} {d : DataW H} {p : List MemPlace} (hval : Value.okWide Try.prog W .any base 22 v)
    (h : DataW.Trod enc Try.prog W 0 (fun _ => true) true 22 v d p) :
    ∃ a c l, v = .slice a (l : List Int).length c ∧ RowAt W a (byteCells l) ∧ l.length ≤ maxLen ∧ ∀ x ∈ l, 0 ≤ x ∧ x ≤ 255 := by
  obtain ⟨a0, len, cap, rfl⟩ := okWide_slice Try.underlying22 hval
  obtain ⟨fuel, hf⟩ := h
  rcases open_ints Try.underlying22 Try.underlying5 Read.cellsU8 hf with ⟨hcs, hx⟩ | ⟨a, len', cap', ss, hcs, _, hl, hm, hz, hx, hcell, hws⟩
  · simp [Value.cells] at hcs
    obtain ⟨rfl, rfl, rfl⟩ := hcs
    exact ⟨none, 0, [], rfl, Or.inl rfl, Nat.zero_le _, fun _ h => by cases h⟩
  · simp [Value.cells] at hcs
    obtain ⟨rfl, rfl, rfl⟩ := hcs
    simp only [if_true] at hz
    have hlen : (ss.take len).length = len := by rw [List.length_take]; omega
    refine ⟨some a, cap, ss.take len, by rw [hlen], ?_, by rw [hlen]; omega, fun s hs => bounds_u8 (hws s (List.mem_of_mem_take hs))⟩
    by_cases h0 : len = 0
    · left; subst h0; simp [byteCells]
    · right
      have hc0 := hcell 0 (by omega)
      obtain ⟨b, o, spot⟩ := a
      have hspot : spot = none := by simpa [Addr.add] using World.cell?_spot hc0
      subst hspot
      have hadd : ∀ i, (⟨b, o, none⟩ : Addr).add i = ⟨b, o + i, none⟩ := fun i => by unfold Addr.add; split <;> simp_all
      refine ⟨b, o, rfl, ?_, fun i v hv => ?_⟩
      · rw [hadd] at hc0; exact Read.lt_of_cell8 hc0
      · simp only [byteCells, List.getElem?_map, Option.map_eq_some_iff] at hv
        obtain ⟨s, hs, rfl⟩ := hv
        rw [List.getElem?_take] at hs
        split at hs
        · have := hcell i (by omega)
          rw [hadd] at this
          rw [this, List.getD_eq_getElem?_getD, hs]; rfl
        · cases hs
/-- big: more than so many bytes. -/
theorem big (a : Option Addr) (n c : Nat) (w : World) (hn : n ≤ 9223372036854775807) :
    Calls Try.prog 12 #[.slice a n c] w fun e w' => e = .returned (.bool (decide (1048576 < n))) ∧ w = w' := by
  go_enter Try.func12, Try.ntmps12
  go_wp2
  go_ret
  exact ⟨congrArg (fun b => Ending.returned (Value.bool b)) (decide_eq_decide.2 (by omega)), rfl⟩
end Go.Proofs.Ytfaagbmaekoogaa
namespace Go.Proofs.Ytfaagbmaekoogaa
open Go.RowKit

/-- Rows that lie in a world. -/
def Rows (w : World) (rs : List (Option Addr × List Int)) : Prop := ∀ r ∈ rs, RowAt w r.1 (intCells r.2)
theorem Rows.nil (w : World) : Rows w [] := fun _ h => by cases h
theorem Rows.below {w w' : World} {rs : List (Option Addr × List Int)} (h : Rows w rs) (hb : Below w.heap.size w w') : Rows w' rs := fun r hr => (h r hr).below hb
theorem Rows.cons {w : World} {rs : List (Option Addr × List Int)} (h : Rows w rs) {a : Option Addr} {l : List Int} (hr : RowAt w a (intCells l)) : Rows w ((a, l) :: rs) := fun r hm => by
  rcases List.mem_cons.1 hm with rfl | hm
  · exact hr
  · exact h r hm
theorem Rows.get {w : World} {rs : List (Option Addr × List Int)} (h : Rows w rs) (a : Option Addr) (l : List Int) (hm : (a, l) ∈ rs) : RowAt w a (intCells l) := h (a, l) hm

set_option maxRecDepth 10000 in
set_option maxHeartbeats 400000 in
theorem sameInts_eq (a a' : Option Addr) (c c' : Nat) (l : List Int) (w : World) (ha : RowAt w a (intCells l)) (ha' : RowAt w a' (intCells l)) (hl : l.length ≤ 9223372036854775807) :
    Calls Try.prog 53 #[.slice a l.length c, .slice a' l.length c'] w fun e w' => e = .returned (.bool true) ∧ Below w.heap.size w w' := by
  go_enter Try.func53, Try.ntmps53
  go_wp2
  go_loopw [4, 5] (fun rv iv wr => rv = .bool false ∧ ∃ i : Nat, i ≤ l.length ∧ iv = .int .i64 i ∧ Below w.heap.size w wr) (fun _ iv _ => l.length - (intOf iv).toNat)
  case atStart => exact ⟨rfl, 0, by omega, rfl, Below.refl _ _⟩
  case round =>
    obtain ⟨rfl, i, hi, rfl, hb⟩ := hrel
    by_cases hlt : i < l.length
    · obtain ⟨b, o, rfl, hbw, hcell⟩ := intCells_at (ha.below hb) hlt
      obtain ⟨b', o', rfl, hbw', hcell'⟩ := intCells_at (ha'.below hb) hlt
      generalize l[i] = x at hcell hcell'
      have h0 : (0 : Int) ≤ (i : Int) := by omega
      have h1 : (i : Int) < (l.length : Int) := by omega
      go_wp2
      go_quiet (fail)
      all_goals go_wp2
      all_goals
        go_roundw
        case rel => exact ⟨rfl, i + 1, by omega, by go_num, below_drewN hb _⟩
        case measure => simp [intOf]; omega
    · obtain rfl : i = l.length := by omega
      go_wp2
      go_ret
      exact ⟨rfl, hb⟩
end Go.Proofs.Ytfaagbmaekoogaa
