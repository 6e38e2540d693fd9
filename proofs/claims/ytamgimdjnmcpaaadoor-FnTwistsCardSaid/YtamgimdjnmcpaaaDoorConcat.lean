/-
  The library's Grow (of nil), Concat and Equal over slices of integers.
-/
import Derived.Test.YtamgimdjnmcpaaaDoorBase
import Derived.Test.YtamgimdjnmcpaaaDoorSlice
import Derived.Test.YtamgimdjnmcpaaaDoorInts
import Derived.Test.YtamgimdjnmcpaaaDoorReduce
import Derived.Test.YtamgimdjnmcpaaaDoorAppend
import Derived.Lib.AppendZeros
import Derived.Deep.QuietTactic
import Derived.BigQuiet
namespace Go.Proofs.YtamgimdjnmcpaaaDoor
open Go.RowKit

theorem wpList_append_runs {P : Program} {ops : Array Oper} {rest : List Oper} {o : Oper} {a : Act} {Q : Exit → Act → World → Prop} {w : World} (hgd : o.guard = none) (s x : Operand) (t tn : TypeId)
    (ho : o.op = .call { callee := .builtin .append, args := #[s, x], argTypes := #[t, tn] }) (v u : Value) (hs : a.eval s = v) (hx : a.eval x = u) {v' : Value} {w' : World}
    (hr : (Builtin.append_ #[t, tn] o.type #[v, u]).run P w = .ok v' w') (h : wpList P ops Q rest (a.put o.dst v') w') : wpList P ops Q (o :: rest) a w :=
  wpList_plain hgd fun _ hK => by
    unfold Oper.wp execOp
    simp only [ho, resolve, invoke, builtin, Sem.run_bind, Sem.run_pure, Result.andThen_ok, List.map_toArray, List.map_cons, List.map_nil, hs, hx, hr]
    exact hK _ _ h
theorem zeroCells_one (n : Nat) : (Builtin.zeroCells (Value.int .i64 0).cells n).size = n := by
  show (Builtin.zeroCells #[Value.int .i64 0] n).size = n
  unfold Builtin.zeroCells
  simp
/-- append(nil, n zeros). -/
theorem grown_nil (n : Nat) (h0 : 0 < n) (hn : n ≤ 4194304) (w : World) : ∃ cap cs, (Builtin.append_ #[24, 3] 24 #[.slice none 0 0, .int .i64 n]).run Tryd.prog w = .ok (.slice (some ⟨w.heap.size, 0, none⟩) n cap) (w.drew.alloc (.cells cs 3)) ∧ n ≤ cap ∧ cap ≤ maxLen ∧ cs.size = cap := by
  obtain ⟨i0, hi, hz0, hz1, hz2⟩ := info_int_parts
  have h := Lib.run_append_nil_zeros (P := Tryd.prog) w 24 3 24 3 i0 _ .i64 .i64 Tryd.underlying24 Tryd.underlying3 hi hz0 n h0 (by rw [hz1]; decide) (by omega) (by rw [hz2]; omega)
  refine ⟨_, _, h, grownCap_ge _ _ _ _, grownCap_le_maxLen _ _ _ _ (by unfold maxLen; omega), ?_⟩
  have := grownCap_ge w n 0 3
  rw [Array.size_append, zeroCells_one, zeroCells_one]; omega

/-- The parts of a Concat. -/
abbrev Part := Option Addr × Nat × List Int
def Part.cell (p : Part) : Value := .slice p.1 p.2.2.length p.2.1
def Part.all (ps : List Part) : List Int := (ps.map fun p => p.2.2).flatten
def Part.len (ps : List Part) : Nat := (Part.all ps).length
theorem Part.take_all {ps : List Part} {i : Nat} (h : i < ps.length) : Part.all (ps.take (i + 1)) = Part.all (ps.take i) ++ ps[i].2.2 := by
  unfold Part.all
  rw [List.take_succ_eq_append_getElem h, List.map_append, List.flatten_append]; simp
theorem Part.take_len {ps : List Part} {i : Nat} (h : i < ps.length) : Part.len (ps.take (i + 1)) = Part.len (ps.take i) + ps[i].2.2.length := by
  unfold Part.len; rw [Part.take_all h, List.length_append]
theorem Part.le_len (ps : List Part) (i : Nat) : Part.len (ps.take i) ≤ Part.len ps := by
  unfold Part.len Part.all
  conv => rhs; rw [← List.take_append_drop i ps, List.map_append, List.flatten_append, List.length_append]
  omega
theorem parts_at {w : World} {a : Option Addr} {ps : List Part} (h : RowAt w a (ps.map Part.cell)) {i : Nat} (hi : i < ps.length) : ∃ b o, a = some ⟨b, o, none⟩ ∧ b < w.heap.size ∧ w.cell? ⟨b, o + i, none⟩ = some (.slice ps[i].1 ps[i].2.2.length ps[i].2.1) := by
  obtain ⟨b, o, rfl, hb, hc⟩ := h.at (i := i) (by simpa using hi)
  exact ⟨b, o, rfl, hb, hc i _ (by simp [hi, Part.cell])⟩


set_option maxRecDepth 10000 in
set_option maxHeartbeats 400000 in
theorem slices_Equal (a a' : Option Addr) (c c' : Nat) (l l' : List Int) (w : World) (ha : RowAt w a (intCells l)) (ha' : RowAt w a' (intCells l')) (hl : l.length ≤ 1048576) (hl' : l'.length ≤ 1048576) :
    Calls Tryd.prog 81 #[.slice a l.length c, .slice a' l'.length c'] w fun e w' => e = .returned (.bool (decide (l = l'))) ∧ Below w.heap.size w w' := by
  by_cases hll : l.length = l'.length
  · go_enter Tryd.func81, Tryd.ntmps81
    have Hll := Lib.hid hll
    go_wp2
    go_loopw [4, 5, 13] (fun rv _ iv wr => rv = .bool false ∧ ∃ i : Nat, i ≤ l.length ∧ iv = .int .i64 i ∧ Below w.heap.size w wr ∧ Hid (∀ j, j < i → l[j]? = l'[j]?)) (fun _ _ iv _ => l.length - (intOf iv).toNat)
    case atStart => exact ⟨rfl, 0, by omega, rfl, Below.refl _ _, Lib.hid (fun j h => by omega)⟩
    case round =>
      obtain ⟨rfl, i, hi, rfl, hb, hsame⟩ := hrel
      by_cases hlt : i < l.length
      · have hlt' : i < l'.length := by rw [← Hll.out]; exact hlt
        obtain ⟨b, o, rfl, hbw, hcell⟩ := intCells_at (ha.below hb) hlt
        obtain ⟨b', o', rfl, hbw', hcell'⟩ := intCells_at (ha'.below hb) hlt'
        have h0 : (0 : Int) ≤ (i : Int) := by omega
        have h1 : (i : Int) < (l.length : Int) := by omega
        have h2 : (i : Int) < (l'.length : Int) := by omega
        have Hx : Hid (l[i]? = some l[i]) := Lib.hid (List.getElem?_eq_getElem hlt)
        have Hy : Hid (l'[i]? = some l'[i]) := Lib.hid (List.getElem?_eq_getElem hlt')
        generalize l[i] = x at *
        generalize l'[i] = y at *
        by_cases hxy : x = y
        · subst hxy
          go_wp2
          go_quiet (fail)
          all_goals go_wp2
          all_goals
            go_roundw
            case rel => exact ⟨rfl, i + 1, by omega, by go_num, below_drewN hb _, Lib.hid (fun j h => by
              rcases Nat.lt_or_ge j i with h' | h'
              · exact hsame.out j h'
              · obtain rfl : j = i := by omega
                rw [Hx.out, Hy.out])⟩
            case measure => simp [intOf]; omega
        · have hd : decide (l = l') = false := decide_eq_false (by
            rintro rfl
            exact hxy (Option.some.inj (Hx.out.symm.trans Hy.out)))
          have Hd := Lib.hid hd; clear hd
          go_wp2
          go_quiet (fail)
          all_goals go_wp2
          all_goals
            go_ret
            refine ⟨?_, below_drewN hb _⟩
            rw [Hd.out]; rfl
      · obtain rfl : i = l.length := by omega
        have hd : decide (l = l') = true := decide_eq_true (List.ext_getElem? (fun j => by
          rcases Nat.lt_or_ge j l.length with h | h
          · exact hsame.out j h
          · rw [List.getElem?_eq_none h, List.getElem?_eq_none (by rw [← Hll.out]; exact h)]))
        have Hd := Lib.hid hd; clear hd
        go_wp2
        go_ret
        refine ⟨?_, hb⟩
        rw [Hd.out]; rfl
  · have hd : decide (l = l') = false := decide_eq_false (fun e => hll (by rw [e]))
    have Hd := Lib.hid hd; clear hd
    go_enter Tryd.func81, Tryd.ntmps81
    go_wp2
    go_ret
    refine ⟨?_, Below.refl _ _⟩
    rw [Hd.out]; rfl
end Go.Proofs.YtamgimdjnmcpaaaDoor
