/-
  The walks of the program's and the model's ReduceWord. The walks of the model's ReduceWord. The library's Grow (of nil), Concat and Equal over slices of integers.
-/
import Derived.Test.YtpebgompfgkljaaBase
import Derived.Test.YtpebgompfgkljaaSlice
import Derived.Test.YtpebgompfgkljaaInts
import Derived.Test.YtpebgompfgkljaaWord
import Derived.Test.YtpebgompfgkljaaIsWord
import Derived.Test.YtpebgompfgkljaaOwn
import Derived.Deep.QuietTactic
import Derived.BigQuiet
import Derived.Test.YtpebgompfgkljaaAppend
import Derived.Lib.AppendZeros
namespace Go.Proofs.Ytpebgompfgkljaa
open Go.RowKit

end Go.Proofs.Ytpebgompfgkljaa
namespace Go.Proofs.Ytpebgompfgkljaa
open Go.RowKit


set_option maxRecDepth 10000 in
set_option maxHeartbeats 400000 in
theorem spec_l2Reduce (a : Option Addr) (c : Nat) (l : List Int) (w : World) (ha : RowAt w a (intCells l)) (hl : l.length ≤ 1000) (hL : ∀ x ∈ l, Word.Letter x) :
    Calls Try.prog 113 #[.slice a l.length c] w fun e w' => Gives w (Word.red l) e w' := by
  have HL := Lib.hid hL; clear hL
  obtain ⟨i0, hi0, hz0, hz1, hz2⟩ := info_int_parts
  have Hinfo := Lib.hid (show Try.prog.info? 3 = some i0 ∧ i0.zero = some (.int .i64 0) ∧ i0.size = 1 ∧ i0.bytes = 8 from ⟨hi0, hz0, hz1, hz2⟩)
  clear hi0 hz0 hz1 hz2
  generalize hN : w.heap.size = N at *
  have HN := Lib.hid hN
  go_enter Try.func113, Try.ntmps113
  go_wp2
  clear hN
  go_loopw [3, 4] (fun ov iv wr => ∃ i : Nat, i ≤ l.length ∧ iv = .int .i64 i ∧ Below N w wr ∧ wr.ownsRow N 3 1 ov (Word.red (l.take i)).length (intCells (Word.red (l.take i)))) (fun _ iv _ => l.length - (intOf iv).toNat)
  case atStart => exact ⟨0, by omega, rfl, by have h := (Below.refl w.heap.size w).alloc (Nat.le_refl _) (.cells #[] 3); rw [HN.out] at h; exact h, by have h := own_made HN.out; rw [HN.out] at h; exact h⟩
  case round =>
    obtain ⟨i, hi, rfl, hb, hown⟩ := hrel
    by_cases hlt : i < l.length
    · have ha' : RowAt wr a (intCells l) := ha.below (by rw [HN.out]; exact hb)
      obtain ⟨b, o, rfl, hbw0, hcell⟩ := intCells_at ha' hlt
      have hLx := HL.out l[i] (List.getElem_mem hlt)
      obtain ⟨hx0, hx1, hx2⟩ := hLx
      have hst := Word.red_take hlt
      have hlen := Word.red_len (l.take i)
      rw [List.length_take] at hlen
      have hNle : N ≤ wr.heap.size := by have := hb.size; rw [HN.out] at this; exact this
      generalize hx : l[i] = x at *
      generalize hX : Word.red (l.take i) = X at *
      generalize hY : Word.red (l.take (i + 1)) = Y at *
      have HY := Lib.hid hY; have HX := Lib.hid hX; have Hx := Lib.hid hx
      clear hx hX hY
      obtain ⟨hi0, hz0, hz1, hz2⟩ := Hinfo.out
      have Hi0 := Lib.hid hi0; have Hz0 := Lib.hid hz0; have Hz1 := Lib.hid hz1; have Hz2 := Lib.hid hz2
      clear hi0 hz0 hz1 hz2
      have hc1 : X.length + 1 ≤ maxLen := by unfold maxLen; omega
      have hc2 : (X.length + 1) * 8 ≤ 140737488355328 := by omega
      have h0i : (0 : Int) ≤ (i : Int) := by omega
      have hil : (i : Int) < (l.length : Int) := by omega
      cases hk : X.length with
      | zero =>
        rw [Word.step_first hk] at hst
        have Hst := Lib.hid hst; clear hst
        rw [hk] at hown hc1 hc2
        have hk' := Lib.hid hk; clear hk
        obtain ⟨av, cv, rfl⟩ := own_len hown
        go_wp2
        go_quiet (fail)
        all_goals have hown' := own_drewN hown
        all_goals go_wp2_with (at_builtin; refine append_one rfl (.tmp 34) (.tmp 39) 42 rfl N 3 i0 _ 8 Try.underlying42 Hi0.out Hz0.out Hz1.out Hz2.out (by rfl) _ _ _ rfl (hown' _) (by rfl) _ rfl hc1 hc2 hNle ?_; intro v1 w1 hown1 hg1 _)
        all_goals
          go_roundw
          case rel =>
            refine ⟨i + 1, by omega, by go_num, Below.grown ((below_drewN hb _).alloc hNle _) hg1 (by simp; omega) (fun k hk => (hown.lt k hk).1), ?_⟩
            rw [HY.out, Hst.out, ← intCells_snoc, List.length_append, hk'.out]; exact hown1
          case measure => simp [intOf]; omega
      | succ k =>
        obtain ⟨y, hy⟩ : ∃ y, X[k]? = some y := ⟨X[k], by simp [hk]⟩
        rw [hk] at hown hc1 hc2
        obtain ⟨g, cap, rfl, hcap, hcapm⟩ := own_form hown (by omega)
        have hcy := own_cell hown (k := k) (by omega) hk
        have hyy : X[k]'(by omega) = y := by
          have := List.getElem?_eq_getElem (l := X) (i := k) (by omega)
          rw [this] at hy; exact Option.some.inj hy
        rw [hyy] at hcy
        have h0k : (0 : Int) ≤ (k : Int) := by omega
        have hkk : (k : Int) < (k : Int) + 1 := by omega
        by_cases he : y = -x
        · rw [Word.step_back hk (by rw [hy, he])] at hst
          have Hst := Lib.hid hst; clear hst
          have hyl : -8 ≤ y ∧ y ≤ 8 := by omega
          have Hown := Lib.hid hown; clear hown
          clear hyy hy
          have hk' := Lib.hid hk; clear hk
          unfold maxLen at hcapm
          subst he
          go_wp2
          go_quiet (fail)
          all_goals go_wp2
          all_goals
            go_roundw
            case rel =>
              refine ⟨i + 1, by omega, by go_num, below_drewN hb _, ?_⟩
              rw [HY.out, Hst.out, ← intCells_take, List.length_take, hk'.out, Nat.min_eq_left (by omega)]
              exact own_take Hown.out (by omega)
            case measure => simp [intOf]; omega
        · rw [Word.step_on hk hy he] at hst
          have Hst := Lib.hid hst; clear hst
          clear hyy hy
          have hk' := Lib.hid hk; clear hk
          go_wp2
          go_quiet (fail)
          all_goals have hown' := own_drewN hown
          all_goals go_wp2_with (at_builtin; refine append_one rfl (.tmp 34) (.tmp 39) 42 rfl N 3 i0 _ 8 Try.underlying42 Hi0.out Hz0.out Hz1.out Hz2.out (by rfl) _ _ _ rfl (hown' _) (by rfl) _ rfl hc1 hc2 hNle ?_; intro v1 w1 hown1 hg1 _)
          all_goals
            go_roundw
            case rel =>
              refine ⟨i + 1, by omega, by go_num, Below.grown ((below_drewN hb _).alloc hNle _) hg1 (by simp; omega) (fun k hk => (hown.lt k hk).1), ?_⟩
              rw [HY.out, Hst.out, ← intCells_snoc, List.length_append, hk'.out]; exact hown1
            case measure => simp [intOf]; omega
    · obtain rfl : i = l.length := by omega
      rw [List.take_of_length_le (Nat.le_refl _)] at hown
      have Hown := Lib.hid hown; clear hown
      go_wp2
      go_ret
      exact own_gives (by rw [HN.out]; exact Hown.out) rfl (by rw [HN.out]; exact hb)

set_option maxRecDepth 10000 in
set_option maxHeartbeats 400000 in
theorem spec_ReduceWord (a : Option Addr) (c : Nat) (l : List Int) (w : World) (ha : RowAt w a (intCells l)) (hl : l.length ≤ 1048576) :
    Calls Try.prog 44 #[.slice a l.length c] w fun e w' => Gives w (Word.reduce l) e w' := by
  have hcW := spec_IsWord a c l w ha hl
  by_cases hW : Word.IsW l
  · rw [decide_eq_true hW] at hcW
    have Hcw := Lib.hid hcW; clear hcW
    have HW := Lib.hid hW; clear hW
    go_enter Try.func44, Try.ntmps44
    go_wp2_with fail
    refine Hcw.out.mono ?_
    rintro e w1 ⟨rfl, hb1⟩
    go_wp2_with fail
    refine (spec_l2Reduce a c l w1 (ha.below hb1) (by have := HW.out.2; omega) HW.out.1).mono ?_
    rintro e w2 hg
    have Hg := Lib.hid (hg.later hb1)
    obtain ⟨a', c', rfl, _, _, _, _⟩ := hg
    go_wp2
    go_ret
    rw [show Word.reduce l = Word.red l from if_pos HW.out]
    exact Hg.out
  · rw [decide_eq_false hW] at hcW
    have Hcw := Lib.hid hcW; clear hcW
    have HW := Lib.hid hW; clear hW
    go_enter Try.func44, Try.ntmps44
    go_wp2_with fail
    refine Hcw.out.mono ?_
    rintro e w1 ⟨rfl, hb1⟩
    go_wp2
    go_ret
    rw [show Word.reduce l = [] from if_neg HW.out]
    exact own_gives (by exact own_mono (own_made (w := w1) rfl) hb1.size) rfl (hb1.alloc hb1.size _)
end Go.Proofs.Ytpebgompfgkljaa
namespace Go.Proofs.Ytpebgompfgkljaa
open Go.RowKit

theorem wpList_append_runs {P : Program} {ops : Array Oper} {rest : List Oper} {o : Oper} {a : Act} {Q : Exit → Act → World → Prop} {w : World} (hgd : o.guard = none) (s x : Operand) (t tn : TypeId)
    (ho : o.op = .call { callee := .builtin .append, args := #[s, x], argTypes := #[t, tn] }) (v u : Value) (hs : a.eval s = v) (hx : a.eval x = u) {v' : Value} {w' : World}
    (hr : (Builtin.append_ #[t, tn] o.type #[v, u]).run P w = .ok v' w') (h : wpList P ops Q rest (a.put o.dst v') w') : wpList P ops Q (o :: rest) a w :=
  wpList_plain hgd fun _ hK => by
    unfold Oper.wp execOp
    simp only [ho, resolve, invoke, builtin, Sem.run_bind, Sem.run_pure, Result.andThen_ok, List.map_toArray, List.map_cons, List.map_nil, hs, hx, hr]
    exact hK _ _ h
theorem zeroCells_one (n : Nat) : (Builtin.zeroCells (Value.int .i64 0).cells n).size = n := by
  show (Builtin.zeroCells #[Value.int .i64 0] n).size = n
  unfold Builtin.zeroCells
  simp
/-- append(nil, n zeros). -/
theorem grown_nil (n : Nat) (h0 : 0 < n) (hn : n ≤ 4194304) (w : World) : ∃ cap cs, (Builtin.append_ #[42, 3] 42 #[.slice none 0 0, .int .i64 n]).run Try.prog w = .ok (.slice (some ⟨w.heap.size, 0, none⟩) n cap) (w.drew.alloc (.cells cs 3)) ∧ n ≤ cap ∧ cap ≤ maxLen ∧ cs.size = cap := by
  obtain ⟨i0, hi, hz0, hz1, hz2⟩ := info_int_parts
  have h := Lib.run_append_nil_zeros (P := Try.prog) w 42 3 42 3 i0 _ .i64 .i64 Try.underlying42 Try.underlying3 hi hz0 n h0 (by rw [hz1]; decide) (by omega) (by rw [hz2]; omega)
  refine ⟨_, _, h, grownCap_ge _ _ _ _, grownCap_le_maxLen _ _ _ _ (by unfold maxLen; omega), ?_⟩
  have := grownCap_ge w n 0 3
  rw [Array.size_append, zeroCells_one, zeroCells_one]; omega

set_option maxRecDepth 10000 in
set_option maxHeartbeats 400000 in
theorem slices_Grow (n : Nat) (hn : n ≤ 4194304) (w : World) :
    Calls Try.prog 141 #[.slice none 0 0, .int .i64 n] w fun e w' => (∃ v, e = .returned v ∧ w'.ownsRow w.heap.size 3 1 v 0 (intCells [])) ∧ Below w.heap.size w w' := by
  by_cases h0 : n = 0
  · subst h0
    go_enter Try.func141, Try.ntmps141
    go_wp2
    go_ret
    exact ⟨⟨_, rfl, World.ownsRow_nil _ _ _ _⟩, Below.refl _ _⟩
  · have hpos : 0 < n := by omega
    obtain ⟨cap, cs, hg, hc1, hc2, hc3⟩ := grown_nil n hpos hn w
    have Hc1 := Lib.hid hc1; have Hc2 := Lib.hid hc2; have Hc3 := Lib.hid hc3
    have hc2' : cap ≤ 9223372036854775807 := by unfold maxLen at hc2; omega
    clear hc1 hc2 hc3
    go_enter Try.func141, Try.ntmps141
    go_wp2_with (at_builtin; refine wpList_append_runs rfl (.tmp 20) (.tmp 21) 42 3 rfl _ _ rfl rfl hg ?_)
    go_ret
    have hb : Below w.heap.size w (w.drew.alloc (.cells cs 3)) := Below.alloc (below_drewN (Below.refl _ w) 1) (Nat.le_refl _) _
    exact ⟨⟨_, rfl, ⟨by simp [intCells], Or.inr ⟨w.heap.size, cap, cs, rfl, Nat.le_refl _, heap_alloc_new w.drew _, Nat.zero_le _, Hc2.out, by rw [Hc3.out, Nat.mul_one], by simp [intCells]⟩⟩⟩, hb⟩

/-- The parts of a Concat. -/
abbrev Part := Option Addr × Nat × List Int
def Part.cell (p : Part) : Value := .slice p.1 p.2.2.length p.2.1
def Part.all (ps : List Part) : List Int := (ps.map fun p => p.2.2).flatten
def Part.len (ps : List Part) : Nat := (Part.all ps).length
theorem Part.take_all {ps : List Part} {i : Nat} (h : i < ps.length) : Part.all (ps.take (i + 1)) = Part.all (ps.take i) ++ ps[i].2.2 := by
  unfold Part.all
  rw [List.take_succ_eq_append_getElem h, List.map_append, List.flatten_append]; simp
theorem Part.take_len {ps : List Part} {i : Nat} (h : i < ps.length) : Part.len (ps.take (i + 1)) = Part.len (ps.take i) + ps[i].2.2.length := by
  unfold Part.len; rw [Part.take_all h, List.length_append]
theorem Part.le_len (ps : List Part) (i : Nat) : Part.len (ps.take i) ≤ Part.len ps := by
  unfold Part.len Part.all
  conv => rhs; rw [← List.take_append_drop i ps, List.map_append, List.flatten_append, List.length_append]
  omega
theorem parts_at {w : World} {a : Option Addr} {ps : List Part} (h : RowAt w a (ps.map Part.cell)) {i : Nat} (hi : i < ps.length) : ∃ b o, a = some ⟨b, o, none⟩ ∧ b < w.heap.size ∧ w.cell? ⟨b, o + i, none⟩ = some (.slice ps[i].1 ps[i].2.2.length ps[i].2.1) := by
  obtain ⟨b, o, rfl, hb, hc⟩ := h.at (i := i) (by simpa using hi)
  exact ⟨b, o, rfl, hb, hc i _ (by simp [hi, Part.cell])⟩

set_option maxRecDepth 10000 in
set_option maxHeartbeats 400000 in
theorem slices_Concat (a : Option Addr) (c : Nat) (ps : List Part) (w : World) (ha : RowAt w a (ps.map Part.cell)) (hps : ∀ i (h : i < ps.length), RowAt w ps[i].1 (intCells ps[i].2.2)) (hn : ps.length ≤ 1000) (hl : Part.len ps ≤ 4194304) :
    Calls Try.prog 76 #[.slice a ps.length c] w fun e w' => Gives w (Part.all ps) e w' := by
  obtain ⟨i0, hi0, hz0, hz1, hz2⟩ := info_int_parts
  have Hi0 := Lib.hid hi0; have Hz0 := Lib.hid hz0; have Hz1 := Lib.hid hz1; have Hz2 := Lib.hid hz2
  clear hi0 hz0 hz1 hz2
  have Hps := Lib.hid hps; clear hps
  generalize hN : w.heap.size = N
  have HN := Lib.hid hN; clear hN
  go_enter Try.func76, Try.ntmps76
  go_wp2
  go_loopw [3, 5, 11] (fun sv _ iv wr => w = wr ∧ ∃ i : Nat, i ≤ ps.length ∧ iv = .int .i64 i ∧ sv = .int .i64 (Part.len (ps.take i))) (fun _ _ iv _ => ps.length - (intOf iv).toNat)
  case atStart => exact ⟨rfl, 0, by omega, rfl, rfl⟩
  case round =>
    obtain ⟨rfl, i, hi, rfl, rfl⟩ := hrel
    by_cases hlt : i < ps.length
    · obtain ⟨b, o, rfl, hbw, hcell⟩ := parts_at ha hlt
      have hst := Part.take_len hlt
      have hle := Part.le_len ps (i + 1)
      generalize ps[i].2.2.length = m at *
      generalize hX : Part.len (ps.take i) = X at *
      have Hst := Lib.hid hst; have HX := Lib.hid hX
      have hle2 : X + m ≤ 4194304 := by omega
      clear hst hX hle
      go_wp2
      go_roundw
      case rel => exact ⟨by first | rfl | trivial, i + 1, by omega, by go_num, by rw [Hst.out]; simp⟩
      case measure => simp [intOf]; omega
    · obtain rfl : i = ps.length := by omega
      rw [List.take_of_length_le (Nat.le_refl _)]
      have Hg := Lib.hid (slices_Grow (Part.len ps) hl w)
      generalize hX : Part.len ps = X at *
      have HX := Lib.hid hX; clear hX
      go_wp2_with fail
      refine Hg.out.mono ?_
      rintro e w1 ⟨⟨v, rfl, hown⟩, hb1⟩
      rw [HN.out] at hown hb1
      go_wp2
      go_loopw [6, 8, 27] (fun ov _ iv wr => ∃ i : Nat, i ≤ ps.length ∧ iv = .int .i64 i ∧ Below N w wr ∧ wr.ownsRow N 3 1 ov (Part.len (ps.take i)) (intCells (Part.all (ps.take i)))) (fun _ _ iv _ => ps.length - (intOf iv).toNat)
      case atStart => exact ⟨0, by omega, rfl, hb1, hown⟩
      case round =>
        obtain ⟨i, hi, rfl, hb, hown⟩ := hrel
        by_cases hlt : i < ps.length
        · have hbN : Below w.heap.size w wr := by rw [HN.out]; exact hb
          obtain ⟨b, o, rfl, hbw, hcell⟩ := parts_at (ha.below hbN) hlt
          have hrow := (Hps.out i hlt).below hbN
          have hst := Part.take_len hlt
          have hsa := Part.take_all hlt
          have hle := Part.le_len ps (i + 1)
          have hNle : N ≤ wr.heap.size := by have := hb.size; rw [HN.out] at this; exact this
          generalize hp : ps[i] = p at *
          obtain ⟨pa, pc, pl⟩ := p
          simp only at hst hsa hcell hrow
          have hle2 : Part.len (ps.take i) + pl.length ≤ 4194304 := by have := HX.out; omega
          have hc1 : Part.len (ps.take i) + pl.length ≤ maxLen := by unfold maxLen; omega
          have hc2 : (Part.len (ps.take i) + pl.length) * 8 ≤ 140737488355328 := by omega
          generalize hXi : Part.len (ps.take i) = Xi at *
          generalize hAi : Part.all (ps.take i) = Ai at *
          have Hst := Lib.hid hst; have Hsa := Lib.hid hsa; have Hrow := Lib.hid hrow
          clear hst hsa hrow hXi hAi hle hp
          obtain ⟨av, cv, rfl⟩ := own_len hown
          go_wp2_with (at_builtin; refine append_row rfl (.tmp 31) (.tmp 32) 42 rfl N 3 i0 _ 8 Try.underlying42 Hi0.out Hz0.out Hz1.out Hz2.out (by rfl) _ _ _ rfl hown _ _ _ _ rfl Hrow.out (intCells_len _) (intCells_one _) hc1 hc2 hNle ?_; intro v1 w1 hown1 hg1)
          go_roundw
          case rel =>
            refine ⟨i + 1, by omega, by go_num, Below.grown hb hg1 hNle (fun k hk => (hown.lt k hk).1), ?_⟩
            rw [Hst.out, Hsa.out, show intCells (Ai ++ pl) = intCells Ai ++ intCells pl from by simp [intCells]]; exact hown1
          case measure => simp [intOf]; omega
        · obtain rfl : i = ps.length := by omega
          rw [List.take_of_length_le (Nat.le_refl _)] at hown
          have Hown := Lib.hid hown
          obtain ⟨av, cv, rfl⟩ := own_len hown
          clear hown
          go_wp2
          go_ret
          exact own_gives (by rw [HN.out]; exact Hown.out) rfl (by rw [HN.out]; exact hb)

set_option maxRecDepth 10000 in
set_option maxHeartbeats 400000 in
theorem slices_Equal (a a' : Option Addr) (c c' : Nat) (l l' : List Int) (w : World) (ha : RowAt w a (intCells l)) (ha' : RowAt w a' (intCells l')) (hl : l.length ≤ 1048576) (hl' : l'.length ≤ 1048576) :
    Calls Try.prog 120 #[.slice a l.length c, .slice a' l'.length c'] w fun e w' => e = .returned (.bool (decide (l = l'))) ∧ Below w.heap.size w w' := by
  by_cases hll : l.length = l'.length
  · go_enter Try.func120, Try.ntmps120
    have Hll := Lib.hid hll
    go_wp2
    go_loopw [4, 5, 13] (fun rv _ iv wr => rv = .bool false ∧ ∃ i : Nat, i ≤ l.length ∧ iv = .int .i64 i ∧ Below w.heap.size w wr ∧ Hid (∀ j, j < i → l[j]? = l'[j]?)) (fun _ _ iv _ => l.length - (intOf iv).toNat)
    case atStart => exact ⟨rfl, 0, by omega, rfl, Below.refl _ _, Lib.hid (fun j h => by omega)⟩
    case round =>
      obtain ⟨rfl, i, hi, rfl, hb, hsame⟩ := hrel
      by_cases hlt : i < l.length
      · have hlt' : i < l'.length := by rw [← Hll.out]; exact hlt
        obtain ⟨b, o, rfl, hbw, hcell⟩ := intCells_at (ha.below hb) hlt
        obtain ⟨b', o', rfl, hbw', hcell'⟩ := intCells_at (ha'.below hb) hlt'
        have h0 : (0 : Int) ≤ (i : Int) := by omega
        have h1 : (i : Int) < (l.length : Int) := by omega
        have h2 : (i : Int) < (l'.length : Int) := by omega
        have Hx : Hid (l[i]? = some l[i]) := Lib.hid (List.getElem?_eq_getElem hlt)
        have Hy : Hid (l'[i]? = some l'[i]) := Lib.hid (List.getElem?_eq_getElem hlt')
        generalize l[i] = x at *
        generalize l'[i] = y at *
        by_cases hxy : x = y
        · subst hxy
          go_wp2
          go_quiet (fail)
          all_goals go_wp2
          all_goals
            go_roundw
            case rel => exact ⟨rfl, i + 1, by omega, by go_num, below_drewN hb _, Lib.hid (fun j h => by
              rcases Nat.lt_or_ge j i with h' | h'
              · exact hsame.out j h'
              · obtain rfl : j = i := by omega
                rw [Hx.out, Hy.out])⟩
            case measure => simp [intOf]; omega
        · have hd : decide (l = l') = false := decide_eq_false (by
            rintro rfl
            exact hxy (Option.some.inj (Hx.out.symm.trans Hy.out)))
          have Hd := Lib.hid hd; clear hd
          go_wp2
          go_quiet (fail)
          all_goals go_wp2
          all_goals
            go_ret
            refine ⟨?_, below_drewN hb _⟩
            rw [Hd.out]; rfl
      · obtain rfl : i = l.length := by omega
        have hd : decide (l = l') = true := decide_eq_true (List.ext_getElem? (fun j => by
          rcases Nat.lt_or_ge j l.length with h | h
          · exact hsame.out j h
          · rw [List.getElem?_eq_none h, List.getElem?_eq_none (by rw [← Hll.out]; exact h)]))
        have Hd := Lib.hid hd; clear hd
        go_wp2
        go_ret
        refine ⟨?_, hb⟩
        rw [Hd.out]; rfl
  · have hd : decide (l = l') = false := decide_eq_false (fun e => hll (by rw [e]))
    have Hd := Lib.hid hd; clear hd
    go_enter Try.func120, Try.ntmps120
    go_wp2
    go_ret
    refine ⟨?_, Below.refl _ _⟩
    rw [Hd.out]; rfl
end Go.Proofs.Ytpebgompfgkljaa
