/-
  The walks of the program's SwapLetters and ReverseLetter.
-/
import Derived.Test.YtbajfmehncgbeaaBase
import Derived.Test.YtbajfmehncgbeaaSlice
import Derived.Test.YtbajfmehncgbeaaIntRow
import Derived.Test.YtbajfmehncgbeaaInts
import Derived.Test.YtbajfmehncgbeaaOwn
import Derived.Test.YtbajfmehncgbeaaGrid
import Derived.Test.YtbajfmehncgbeaaGridWalk
import Derived.Test.YtbajfmehncgbeaaGridMark
import Derived.Test.YtbajfmehncgbeaaGridRows
import Derived.Test.YtbajfmehncgbeaaWord
import Derived.Test.YtbajfmehncgbeaaGlue
import Derived.Test.YtbajfmehncgbeaaIsWord
import Derived.Test.YtbajfmehncgbeaaUses
import Derived.Test.YtbajfmehncgbeaaIsGluing
import Derived.Test.YtbajfmehncgbeaaMove
import Derived.Test.YtbajfmehncgbeaaMoveA
import Derived.Test.YtbajfmehncgbeaaMoveB
import Derived.Deep.QuietTactic
import Derived.BigQuiet
namespace Go.Proofs.Ytbajfmehncgbeaa
open Go.RowKit

/-- The first j elements are changed. -/
def part {α : Type} (f : α → α) (l : List α) (j : Nat) : List α := (l.take j).map f ++ l.drop j
theorem part_zero {α : Type} (f : α → α) (l : List α) : part f l 0 = l := by simp [part]
theorem part_all {α : Type} (f : α → α) (l : List α) : part f l l.length = l.map f := by simp [part]
theorem part_len {α : Type} (f : α → α) (l : List α) (j : Nat) : (part f l j).length = l.length := by simp [part]; omega
theorem part_get {α : Type} {f : α → α} {l : List α} {j : Nat} {x : α} (h : l[j]? = some x) : (part f l j)[j]? = some x := by
  obtain ⟨hj, rfl⟩ := List.getElem?_eq_some_iff.1 h
  unfold part
  rw [List.getElem?_append_right (by simp; omega), List.length_map, List.length_take, Nat.min_eq_left (by omega), Nat.sub_self, List.getElem?_drop]
  simp
theorem part_set {α : Type} {f : α → α} {l : List α} {j : Nat} {x : α} (h : l[j]? = some x) : (part f l j).set j (f x) = part f l (j + 1) := by
  obtain ⟨hj, rfl⟩ := List.getElem?_eq_some_iff.1 h
  unfold part
  rw [List.take_succ_eq_append_getElem hj, List.drop_eq_getElem_cons hj, List.map_append, List.set_append]
  simp only [List.length_map, List.length_take, Nat.min_eq_left (Nat.le_of_lt hj), Nat.lt_irrefl, if_false, Nat.sub_self, List.set_cons_zero, List.map_cons, List.map_nil, List.append_assoc, List.singleton_append]
theorem HdsIn.below {w w' : World} {lo hi : Nat} {a : Option Addr} {hs : List Hd} (h : HdsIn w lo hi a hs) (hb : Below w.heap.size w w') : HdsIn w' lo hi a hs :=
  ⟨h.1.below hb, fun x hx => (h.2.1 x hx).below hb, h.2.2⟩
theorem HdsIn.cell {w : World} {lo hi b o i : Nat} {hs : List Hd} {x : Hd} (h : HdsIn w lo hi (some ⟨b, o, none⟩) hs) (hx : hs[i]? = some x) : w.cell? ⟨b, o + i, none⟩ = some (.slice x.a x.l.length x.c) := by
  obtain ⟨hi', rfl⟩ := List.getElem?_eq_some_iff.1 hx
  obtain ⟨b', o', e, hb, hc⟩ := h.1.row.at (i := i) (by rw [hdCells_len]; exact hi')
  cases e
  exact hc i _ (hdCells_get hi')
theorem HdsIn.put {w : World} {lo hi i : Nat} {a : Option Addr} {p q : List Hd} {x : Hd} (h : HdsIn w lo hi a (p ++ x :: q)) (hi' : i < x.l.length) :
    ∃ g o, x.a = some ⟨g, o, none⟩ ∧ lo ≤ g ∧ g < hi ∧ (∀ j z, x.l[j]? = some z → w.cell? ⟨g, o + j, none⟩ = some (.int .i64 z)) ∧ w.frozen? ⟨g, o + i, none⟩ = false ∧ ∀ y, HdsIn (w.setCell ⟨g, o + i, none⟩ (.int .i64 y)) lo hi a (p ++ ⟨x.a, x.c, x.l.set i y⟩ :: q) := by
  have hne : x.l ≠ [] := fun e => by rw [e] at hi'; simp at hi'
  rcases h.2.1 x (List.mem_append.2 (Or.inr (List.mem_cons_self ..))) with e | ⟨g, o, all, ha, h1, h2, hk, hc⟩
  · exact absurd (by simpa [intCells] using e) hne
  · refine ⟨g, o, ha, h1, h2, fun j z hz => by rw [hk.cell]; exact hc j _ (by simp [intCells, hz]), hk.frozen _, fun y => h.mark (by simp) (Or.inr ⟨g, o, _, ha, h1, h2, hk.put (o + i) (.int .i64 y), fun j v hv => ?_⟩) (Or.inr ⟨hne, g, o, ha, h1, h2, only_setCell (World.grownBy.refl _ _) (Or.inl rfl) _⟩)⟩
    have hsz : o + i < all.size := by
      have := hc i (.int .i64 (x.l[i]'hi')) (by simp [intCells, hi'])
      obtain ⟨h3, _⟩ := Array.getElem?_eq_some_iff.1 this
      exact h3
    by_cases e : j = i
    · subst e
      simp only [intCells, List.getElem?_map, List.getElem?_set, hi'] at hv
      simp [hsz] at hv ⊢
      exact hv
    · have hv' : (intCells x.l)[j]? = some v := by
        simp only [intCells, List.getElem?_map, List.getElem?_set] at hv ⊢
        rw [if_neg (fun e' => e e'.symm)] at hv
        exact hv
      rw [Array.getElem?_setIfInBounds, if_neg (by omega)]
      exact hc j v hv'
theorem Held.hds {w : World} {lo g n cap : Nat} {L : List (List Int)} (h : Held w lo (.slice (some ⟨g, 0, none⟩) n cap) L) : ∃ hs, hs.map Hd.l = L ∧ HdsIn w lo w.heap.size (some ⟨g, 0, none⟩) hs := by
  obtain ⟨a, c, e, _, _, hs, h1, h2⟩ := h.done
  cases e
  exact ⟨hs, h1, h2⟩
theorem hds_split {hs : List Hd} {L : List (List Int)} {i : Nat} {r : List Int} (h : hs.map Hd.l = L) (hr : L[i]? = some r) : ∃ p q a c, hs = p ++ ⟨a, c, r⟩ :: q ∧ p.length = i ∧ hs[i]? = some ⟨a, c, r⟩ := by
  subst h
  rw [List.getElem?_map] at hr
  cases hx : hs[i]? with
  | none => rw [hx] at hr; cases hr
  | some x =>
    rw [hx] at hr
    obtain ⟨a, c, l⟩ := x
    simp only [Option.map_some, Option.some.injEq] at hr
    subst hr
    obtain ⟨hi, he⟩ := List.getElem?_eq_some_iff.1 hx
    refine ⟨hs.take i, hs.drop (i + 1), a, c, ?_, by simp; omega, rfl⟩
    conv => lhs; rw [← List.take_append_drop i hs, List.drop_eq_getElem_cons hi, he]
theorem sgn_pos {s : Int} (h : 0 < s) : Mv.sgn s = 1 := if_pos h
theorem sgn_neg {s : Int} (h : s < 0) : Mv.sgn s = -1 := by unfold Mv.sgn; rw [if_neg (by omega), if_pos h]

set_option maxRecDepth 10000 in
theorem impl_isEdgeLetter (x : Int) (w : World) : Calls Try.prog 78 #[.int .i64 x] w fun e w' => e = .returned (.bool (decide (Mv.EdgeLetter x))) ∧ w' = w := by
  have hd : decide (Mv.EdgeLetter x) = (decide (1 ≤ x) && decide (x ≤ 8)) := by rw [← Bool.decide_and]; rfl
  rw [hd]
  by_cases h1 : 1 ≤ x
  · have d1 : decide (1 ≤ x) = true := decide_eq_true h1
    go_enter Try.func78, Try.ntmps78
    go_wp2
    go_ret
    exact ⟨by simp [d1], rfl⟩
  · have d1 : decide (1 ≤ x) = false := decide_eq_false h1
    go_enter Try.func78, Try.ntmps78
    go_wp2
    go_ret
    exact ⟨by simp [d1], rfl⟩
set_option maxRecDepth 10000 in
set_option maxHeartbeats 1000000 in
theorem impl_swap1 (s x y : Int) (B0 B1 : Nat) (W : World) (hs : Word.Letter s) (hx : Mv.EdgeLetter x) (hy : Mv.EdgeLetter y) (c0 : W.cell? ⟨B0, 0, none⟩ = some (.int .i64 x)) (c1 : W.cell? ⟨B1, 0, none⟩ = some (.int .i64 y)) :
    Calls Try.prog 80 #[.int .i64 s, .pointer (some ⟨B0, 0, none⟩), .pointer (some ⟨B1, 0, none⟩)] W fun e W' => e = .returned (.int .i64 (Mv.swp x y y x s)) ∧ Below W.heap.size W W' := by
  rw [Word.letter_iff] at hs
  obtain ⟨hx0, hx1⟩ := hx
  obtain ⟨hy0, hy1⟩ := hy
  have Habs := Lib.hid (fun W => impl_edgeOf s W (by omega) (by omega))
  by_cases e1 : (s.natAbs : Int) = x
  · have b1 : ((s.natAbs : Int) == x) = true := beq_iff_eq.2 e1
    rcases (show s = x ∨ s = -x by omega) with e2 | e2
    · have hv : Mv.swp x y y x s = y := by unfold Mv.swp; rw [if_pos e1, sgn_pos (by omega)]; omega
      have q1 : s.tdiv x = 1 := by rw [e2]; exact Int.tdiv_self (by omega)
      have hx9 : (x == 0) = false := beq_eq_false_iff_ne.2 (by omega)
      have hx8 : ¬ x = 0 := by omega
      rw [hv]
      have He := Lib.hid e1; have He2 := Lib.hid e2
      clear e1 e2 hv
      go_enter Try.func80, Try.ntmps80
      go_wp2_with fail
      refine (Habs.out _).mono ?_
      rintro e w9 ⟨rfl, hw9⟩
      rw [hw9]; clear hw9
      go_wp2
      go_quiet (fail)
      all_goals go_wp2
      all_goals (go_ret; exact ⟨rfl, below_drewN (Below.refl _ _) _⟩)
    · have hv : Mv.swp x y y x s = -y := by unfold Mv.swp; rw [if_pos e1, sgn_neg (by omega)]; omega
      have q1 : s.tdiv x = -1 := by rw [e2, Int.neg_tdiv, Int.tdiv_self (by omega)]
      have hx9 : (x == 0) = false := beq_eq_false_iff_ne.2 (by omega)
      have hx8 : ¬ x = 0 := by omega
      rw [hv]
      have He := Lib.hid e1; have He2 := Lib.hid e2
      clear e1 e2 hv
      go_enter Try.func80, Try.ntmps80
      go_wp2_with fail
      refine (Habs.out _).mono ?_
      rintro e w9 ⟨rfl, hw9⟩
      rw [hw9]; clear hw9
      go_wp2
      go_quiet (fail)
      all_goals go_wp2
      all_goals (go_ret; exact ⟨by first | rfl | (congr 2; omega), below_drewN (Below.refl _ _) _⟩)
  · have b1 : ((s.natAbs : Int) == x) = false := beq_eq_false_iff_ne.2 e1
    by_cases e3 : (s.natAbs : Int) = y
    · have b3 : ((s.natAbs : Int) == y) = true := beq_iff_eq.2 e3
      rcases (show s = y ∨ s = -y by omega) with e2 | e2
      · have hv : Mv.swp x y y x s = x := by unfold Mv.swp; rw [if_neg e1, if_pos e3, sgn_pos (by omega)]; omega
        have q1 : s.tdiv y = 1 := by rw [e2]; exact Int.tdiv_self (by omega)
        have hx9 : (y == 0) = false := beq_eq_false_iff_ne.2 (by omega)
        have hx8 : ¬ y = 0 := by omega
        rw [hv]
        have He := Lib.hid e1; have He2 := Lib.hid e2; have He3 := Lib.hid e3
        clear e1 e2 e3 hv
        go_enter Try.func80, Try.ntmps80
        go_wp2_with fail
        refine (Habs.out _).mono ?_
        rintro e w9 ⟨rfl, hw9⟩
        rw [hw9]; clear hw9
        go_wp2
        go_quiet (fail)
        all_goals go_wp2
        all_goals (go_ret; exact ⟨rfl, below_drewN (Below.refl _ _) _⟩)
      · have hv : Mv.swp x y y x s = -x := by unfold Mv.swp; rw [if_neg e1, if_pos e3, sgn_neg (by omega)]; omega
        have q1 : s.tdiv y = -1 := by rw [e2, Int.neg_tdiv, Int.tdiv_self (by omega)]
        have hx9 : (y == 0) = false := beq_eq_false_iff_ne.2 (by omega)
        have hx8 : ¬ y = 0 := by omega
        rw [hv]
        have He := Lib.hid e1; have He2 := Lib.hid e2; have He3 := Lib.hid e3
        clear e1 e2 e3 hv
        go_enter Try.func80, Try.ntmps80
        go_wp2_with fail
        refine (Habs.out _).mono ?_
        rintro e w9 ⟨rfl, hw9⟩
        rw [hw9]; clear hw9
        go_wp2
        go_quiet (fail)
        all_goals go_wp2
        all_goals (go_ret; exact ⟨by first | rfl | (congr 2; omega), below_drewN (Below.refl _ _) _⟩)
    · have b3 : ((s.natAbs : Int) == y) = false := beq_eq_false_iff_ne.2 e3
      have hv : Mv.swp x y y x s = s := by unfold Mv.swp; rw [if_neg e1, if_neg e3]
      rw [hv]
      have He := Lib.hid e1; have He3 := Lib.hid e3
      clear e1 e3 hv
      go_enter Try.func80, Try.ntmps80
      go_wp2_with fail
      refine (Habs.out _).mono ?_
      rintro e w9 ⟨rfl, hw9⟩
      rw [hw9]; clear hw9
      go_wp2
      go_ret
      exact ⟨rfl, Below.refl _ _⟩
set_option maxRecDepth 10000 in
set_option maxHeartbeats 1000000 in
theorem impl_rev1 (s x : Int) (B0 : Nat) (W : World) (hs : Word.Letter s) (hx : Mv.EdgeLetter x) (c0 : W.cell? ⟨B0, 0, none⟩ = some (.int .i64 x)) :
    Calls Try.prog 83 #[.int .i64 s, .pointer (some ⟨B0, 0, none⟩)] W fun e W' => e = .returned (.int .i64 (Mv.swp x (-x) x (-x) s)) ∧ Below W.heap.size W W' := by
  rw [Word.letter_iff] at hs
  obtain ⟨hx0, hx1⟩ := hx
  have Habs := Lib.hid (fun W => impl_edgeOf s W (by omega) (by omega))
  by_cases e1 : (s.natAbs : Int) = x
  · have b1 : ((s.natAbs : Int) == x) = true := beq_iff_eq.2 e1
    have hv : Mv.swp x (-x) x (-x) s = -s := by
      unfold Mv.swp; rw [if_pos e1]
      rcases (show 0 < s ∨ s < 0 by omega) with h | h
      · rw [sgn_pos h]; omega
      · rw [sgn_neg h]; omega
    rw [hv]
    have He := Lib.hid e1
    clear e1 hv
    go_enter Try.func83, Try.ntmps83
    go_wp2
    go_quiet (exact Calls.quiet_of_same (Habs.out _))
    all_goals go_wp2
    all_goals (go_ret; exact ⟨rfl, below_drewN (Below.refl _ _) _⟩)
  · have b1 : ((s.natAbs : Int) == x) = false := beq_eq_false_iff_ne.2 e1
    have hv : Mv.swp x (-x) x (-x) s = s := by unfold Mv.swp; rw [if_neg e1, if_neg e1]
    rw [hv]
    have He := Lib.hid e1
    clear e1 hv
    go_enter Try.func83, Try.ntmps83
    go_wp2
    go_quiet (exact Calls.quiet_of_same (Habs.out _))
    all_goals go_wp2
    all_goals (go_ret; exact ⟨rfl, below_drewN (Below.refl _ _) _⟩)
set_option maxRecDepth 10000 in
set_option maxHeartbeats 2000000 in
theorem impl_changeSides_swap (a : Option Addr) (c : Nat) (L : List (List Int)) (x y : Int) (B0 B1 : Nat) (w : World) (ha : GridAt w a L) (hl : tot L ≤ 1048576) (hL : ∀ r ∈ L, ∀ s ∈ r, Word.Letter s) (hx : Mv.EdgeLetter x) (hy : Mv.EdgeLetter y) (hB0 : B0 < w.heap.size) (hB1 : B1 < w.heap.size) (c0 : w.cell? ⟨B0, 0, none⟩ = some (.int .i64 x)) (c1 : w.cell? ⟨B1, 0, none⟩ = some (.int .i64 y)) :
    Calls Try.prog 79 #[.slice a L.length c, .func (.func 80) #[] #[.pointer (some ⟨B0, 0, none⟩), .pointer (some ⟨B1, 0, none⟩)]] w fun e w' => ∃ v, e = .returned v ∧ (∃ a c, v = .slice a (L.map (List.map (Mv.swp x y y x))).length c ∧ (L.map (List.map (Mv.swp x y y x))).length ≤ c ∧ c ≤ maxLen ∧ GridIn w' w.heap.size w'.heap.size a (L.map (List.map (Mv.swp x y y x)))) ∧ Below w.heap.size w w' := by
  have Hc := Lib.hid (impl_copyPolygons a c L w ha hl)
  have hln : L.length ≤ 1048576 := by unfold tot at hl; omega
  have HT := Lib.hid (tot_parts hl).2.2
  have hF := fun s (hs : Word.Letter s) W (hW : Below w.heap.size w W) => impl_swap1 s x y B0 B1 W hs hx hy (by rw [hW.cell hB0]; exact c0) (by rw [hW.cell hB1]; exact c1)
  generalize Mv.swp x y y x = f at *
  have HF := Lib.hid hF; have HL := Lib.hid hL
  clear hF ha hl hL
  generalize hN : w.heap.size = N at *
  have HN := Lib.hid hN; clear hN
  go_enter Try.func79, Try.ntmps79
  go_wp2_with fail
  refine Hc.out.mono ?_
  rintro e w1 ⟨rfl, hh, hb⟩
  obtain ⟨hs0, hm0, hd0⟩ := hh.hds
  generalize hM : w1.heap.size = M at *
  have HM := Lib.hid hM
  have Hb := Lib.hid (And.intro hb (Nat.le_of_eq HM.out.symm)); have Hd0 := Lib.hid hd0; have Hm0 := Lib.hid hm0
  clear hb hd0 hh hM hm0
  go_wp2
  go_loopw [7, 8, 9, 14] (fun _ _ _ iv wr => ∃ i : Nat, i ≤ L.length ∧ iv = .int .i64 i ∧ Hid (Below N w wr ∧ M ≤ wr.heap.size) ∧ ∃ hs, Hid (hs.map Hd.l = part (List.map f) L i ∧ HdsIn wr N M (some ⟨N, 0, none⟩) hs)) (fun _ _ _ iv _ => L.length - (intOf iv).toNat)
  case atStart => exact ⟨0, by omega, rfl, Hb, hs0, Lib.hid ⟨by rw [part_zero]; exact Hm0.out, Hd0.out⟩⟩
  case round =>
    obtain ⟨i, hi, rfl, hb, hs, hp⟩ := hrel
    by_cases hlt : i < L.length
    · obtain ⟨r, hr⟩ := get_some hlt
      obtain ⟨p, q, xa, xc, hsp, hpl, hxg⟩ := hds_split hp.out.1 (part_get (f := List.map f) hr)
      have hcell : wr.cell? ⟨N, i, none⟩ = some (.slice xa r.length xc) := by have := hp.out.2.cell hxg; simpa using this
      have Hr := Lib.hid hr; have Hsp := Lib.hid hsp; have Hpl := Lib.hid hpl
      have HLr := Lib.hid (HL.out r (get_mem hr))
      have hrl : r.length ≤ 1048576 := HT.out r (get_mem hr)
      clear hr hsp hpl hxg
      go_wp2
      go_loopw [8, 9, 20] (fun _ _ jv w2 => ∃ j : Nat, j ≤ r.length ∧ jv = .int .i64 j ∧ Hid (Below N w w2 ∧ M ≤ w2.heap.size) ∧ Hid (HdsIn w2 N M (some ⟨N, 0, none⟩) (p ++ ⟨xa, xc, part f r j⟩ :: q))) (fun _ _ jv _ => r.length - (intOf jv).toNat)
      case atStart => exact ⟨0, by omega, rfl, hb, Lib.hid (by rw [part_zero, ← Hsp.out]; exact hp.out.2)⟩
      case round =>
        clear hcell
        obtain ⟨j, hj, rfl, hb2, hd⟩ := hrel
        by_cases hjt : j < r.length
        · obtain ⟨s, hs⟩ := get_some hjt
          have hls := HLr.out s (get_mem hs)
          obtain ⟨g, o, hxa, hg1, hg2, hcs, hfz, _⟩ := hd.out.put (i := j) (by show j < (part f r j).length; rw [part_len]; exact hjt)
          have hxa : xa = some ⟨g, o, none⟩ := hxa
          subst hxa
          have hcell := hcs j s (part_get hs)
          have hcl := HF.out s hls wr hb2.out.1
          have Hcl := Lib.hid hcl; have Hs := Lib.hid hs
          clear hcs hcl hs hls
          go_wp2_with fail
          refine Hcl.out.mono ?_
          rintro e w3 ⟨rfl, hb3⟩
          obtain ⟨g', o', he, _, _, hcs, hfz3, hput⟩ := (hd.out.below hb3).put (i := j) (by show j < (part f r j).length; rw [part_len]; exact hjt)
          have he : some (⟨g, o, none⟩ : Addr) = some ⟨g', o', none⟩ := he
          cases he
          have hcell3 := hcs j s (part_get Hs.out)
          have hput := hput (f s)
          rw [show (part f r j).set j (f s) = part f r (j + 1) from part_set Hs.out] at hput
          have Hput := Lib.hid hput; have Hb3 := Lib.hid (And.intro (hb2.out.1.trans (hb3.mono (by have := hb2.out.1.size; rw [HN.out] at this; exact this))) (Nat.le_trans hb2.out.2 hb3.size))
          clear hcs hput hb3 hcell
          go_wp2
          go_roundw
          case rel => exact ⟨j + 1, by omega, by go_num, Lib.hid ⟨Hb3.out.1.setCell hg1 _, by have := Hb3.out.2; simpa [World.setCell] using this⟩, Hput⟩
          case measure => simp [intOf]; omega
        · obtain rfl : j = r.length := by omega
          go_wp2
          go_roundw
          case rel =>
            refine ⟨i + 1, by omega, by go_num, hb2, _, Lib.hid ⟨?_, hd.out⟩⟩
            have h1 := hp.out.1
            rw [Hsp.out] at h1
            rw [← part_set Hr.out, ← h1, part_all]
            simp [← Hpl.out]
          case measure => simp [intOf]; omega
    · obtain rfl : i = L.length := by omega
      go_wp2
      go_ret
      have h1 := hp.out.1
      rw [part_all] at h1
      refine ⟨_, rfl, ⟨some ⟨N, 0, none⟩, L.length, by rw [List.length_map]; rfl, by simp, by unfold maxLen; omega, ?_⟩, hb.out.1⟩
      have h2 := hp.out.2.grid
      rw [h1] at h2
      exact h2.mono (Nat.le_refl _) hb.out.2
set_option maxRecDepth 10000 in
set_option maxHeartbeats 2000000 in
theorem impl_changeSides_rev (a : Option Addr) (c : Nat) (L : List (List Int)) (x : Int) (B0 : Nat) (w : World) (ha : GridAt w a L) (hl : tot L ≤ 1048576) (hL : ∀ r ∈ L, ∀ s ∈ r, Word.Letter s) (hx : Mv.EdgeLetter x) (hB0 : B0 < w.heap.size) (c0 : w.cell? ⟨B0, 0, none⟩ = some (.int .i64 x)) :
    Calls Try.prog 79 #[.slice a L.length c, .func (.func 83) #[] #[.pointer (some ⟨B0, 0, none⟩)]] w fun e w' => ∃ v, e = .returned v ∧ (∃ a c, v = .slice a (L.map (List.map (Mv.swp x (-x) x (-x)))).length c ∧ (L.map (List.map (Mv.swp x (-x) x (-x)))).length ≤ c ∧ c ≤ maxLen ∧ GridIn w' w.heap.size w'.heap.size a (L.map (List.map (Mv.swp x (-x) x (-x))))) ∧ Below w.heap.size w w' := by
  have Hc := Lib.hid (impl_copyPolygons a c L w ha hl)
  have hln : L.length ≤ 1048576 := by unfold tot at hl; omega
  have HT := Lib.hid (tot_parts hl).2.2
  have hF := fun s (hs : Word.Letter s) W (hW : Below w.heap.size w W) => impl_rev1 s x B0 W hs hx (by rw [hW.cell hB0]; exact c0)
  generalize Mv.swp x (-x) x (-x) = f at *
  have HF := Lib.hid hF; have HL := Lib.hid hL
  clear hF ha hl hL
  generalize hN : w.heap.size = N at *
  have HN := Lib.hid hN; clear hN
  go_enter Try.func79, Try.ntmps79
  go_wp2_with fail
  refine Hc.out.mono ?_
  rintro e w1 ⟨rfl, hh, hb⟩
  obtain ⟨hs0, hm0, hd0⟩ := hh.hds
  generalize hM : w1.heap.size = M at *
  have HM := Lib.hid hM
  have Hb := Lib.hid (And.intro hb (Nat.le_of_eq HM.out.symm)); have Hd0 := Lib.hid hd0; have Hm0 := Lib.hid hm0
  clear hb hd0 hh hM hm0
  go_wp2
  go_loopw [7, 8, 9, 14] (fun _ _ _ iv wr => ∃ i : Nat, i ≤ L.length ∧ iv = .int .i64 i ∧ Hid (Below N w wr ∧ M ≤ wr.heap.size) ∧ ∃ hs, Hid (hs.map Hd.l = part (List.map f) L i ∧ HdsIn wr N M (some ⟨N, 0, none⟩) hs)) (fun _ _ _ iv _ => L.length - (intOf iv).toNat)
  case atStart => exact ⟨0, by omega, rfl, Hb, hs0, Lib.hid ⟨by rw [part_zero]; exact Hm0.out, Hd0.out⟩⟩
  case round =>
    obtain ⟨i, hi, rfl, hb, hs, hp⟩ := hrel
    by_cases hlt : i < L.length
    · obtain ⟨r, hr⟩ := get_some hlt
      obtain ⟨p, q, xa, xc, hsp, hpl, hxg⟩ := hds_split hp.out.1 (part_get (f := List.map f) hr)
      have hcell : wr.cell? ⟨N, i, none⟩ = some (.slice xa r.length xc) := by have := hp.out.2.cell hxg; simpa using this
      have Hr := Lib.hid hr; have Hsp := Lib.hid hsp; have Hpl := Lib.hid hpl
      have HLr := Lib.hid (HL.out r (get_mem hr))
      have hrl : r.length ≤ 1048576 := HT.out r (get_mem hr)
      clear hr hsp hpl hxg
      go_wp2
      go_loopw [8, 9, 20] (fun _ _ jv w2 => ∃ j : Nat, j ≤ r.length ∧ jv = .int .i64 j ∧ Hid (Below N w w2 ∧ M ≤ w2.heap.size) ∧ Hid (HdsIn w2 N M (some ⟨N, 0, none⟩) (p ++ ⟨xa, xc, part f r j⟩ :: q))) (fun _ _ jv _ => r.length - (intOf jv).toNat)
      case atStart => exact ⟨0, by omega, rfl, hb, Lib.hid (by rw [part_zero, ← Hsp.out]; exact hp.out.2)⟩
      case round =>
        clear hcell
        obtain ⟨j, hj, rfl, hb2, hd⟩ := hrel
        by_cases hjt : j < r.length
        · obtain ⟨s, hs⟩ := get_some hjt
          have hls := HLr.out s (get_mem hs)
          obtain ⟨g, o, hxa, hg1, hg2, hcs, hfz, _⟩ := hd.out.put (i := j) (by show j < (part f r j).length; rw [part_len]; exact hjt)
          have hxa : xa = some ⟨g, o, none⟩ := hxa
          subst hxa
          have hcell := hcs j s (part_get hs)
          have hcl := HF.out s hls wr hb2.out.1
          have Hcl := Lib.hid hcl; have Hs := Lib.hid hs
          clear hcs hcl hs hls
          go_wp2_with fail
          refine Hcl.out.mono ?_
          rintro e w3 ⟨rfl, hb3⟩
          obtain ⟨g', o', he, _, _, hcs, hfz3, hput⟩ := (hd.out.below hb3).put (i := j) (by show j < (part f r j).length; rw [part_len]; exact hjt)
          have he : some (⟨g, o, none⟩ : Addr) = some ⟨g', o', none⟩ := he
          cases he
          have hcell3 := hcs j s (part_get Hs.out)
          have hput := hput (f s)
          rw [show (part f r j).set j (f s) = part f r (j + 1) from part_set Hs.out] at hput
          have Hput := Lib.hid hput; have Hb3 := Lib.hid (And.intro (hb2.out.1.trans (hb3.mono (by have := hb2.out.1.size; rw [HN.out] at this; exact this))) (Nat.le_trans hb2.out.2 hb3.size))
          clear hcs hput hb3 hcell
          go_wp2
          go_roundw
          case rel => exact ⟨j + 1, by omega, by go_num, Lib.hid ⟨Hb3.out.1.setCell hg1 _, by have := Hb3.out.2; simpa [World.setCell] using this⟩, Hput⟩
          case measure => simp [intOf]; omega
        · obtain rfl : j = r.length := by omega
          go_wp2
          go_roundw
          case rel =>
            refine ⟨i + 1, by omega, by go_num, hb2, _, Lib.hid ⟨?_, hd.out⟩⟩
            have h1 := hp.out.1
            rw [Hsp.out] at h1
            rw [← part_set Hr.out, ← h1, part_all]
            simp [← Hpl.out]
          case measure => simp [intOf]; omega
    · obtain rfl : i = L.length := by omega
      go_wp2
      go_ret
      have h1 := hp.out.1
      rw [part_all] at h1
      refine ⟨_, rfl, ⟨some ⟨N, 0, none⟩, L.length, by rw [List.length_map]; rfl, by simp, by unfold maxLen; omega, ?_⟩, hb.out.1⟩
      have h2 := hp.out.2.grid
      rw [h1] at h2
      exact h2.mono (Nat.le_refl _) hb.out.2
end Go.Proofs.Ytbajfmehncgbeaa
