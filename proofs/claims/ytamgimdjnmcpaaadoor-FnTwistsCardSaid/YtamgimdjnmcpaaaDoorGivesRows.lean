/-
  Rows of literals that a call gives: the relation, and what one row more asks for.
-/
import Derived.Test.YtamgimdjnmcpaaaDoorBase
import Derived.Test.YtamgimdjnmcpaaaDoorSlice
import Derived.Test.YtamgimdjnmcpaaaDoorIntRow
import Derived.Test.YtamgimdjnmcpaaaDoorInts
import Derived.Test.YtamgimdjnmcpaaaDoorGrid
import Derived.Test.YtamgimdjnmcpaaaDoorGridWalk
import Derived.Test.YtamgimdjnmcpaaaDoorGridRows
import Derived.Test.YtamgimdjnmcpaaaDoorOwn
namespace Go.Proofs.YtamgimdjnmcpaaaDoor
open Go.RowKit

/-- The call gives these rows, in memory of its own. -/
def GivesRows (w : World) (L : List (List Int)) (e : Ending) (w' : World) : Prop :=
  ∃ a c, e = .returned (.slice a L.length c) ∧ L.length ≤ c ∧ c ≤ maxLen ∧ GridIn w' w.heap.size w'.heap.size a L ∧ Below w.heap.size w w'
theorem GivesRows.none {w w' : World} {a : Option Addr} (hb : Below w.heap.size w w') : GivesRows w [] (.returned (.slice a 0 0)) w' := ⟨_, _, rfl, Nat.le_refl _, Nat.zero_le _, GridIn.nil _ _ _ _, hb⟩
theorem GivesRows.later {w w0 w' : World} {L : List (List Int)} {e : Ending} (h : GivesRows w0 L e w') (hb : Below w.heap.size w w0) : GivesRows w L e w' := by
  obtain ⟨a, c, rfl, h1, h2, h3, h4⟩ := h
  exact ⟨a, c, rfl, h1, h2, h3.mono hb.size (Nat.le_refl _), hb.trans (h4.mono hb.size)⟩
/-- One row more, behind rows that lie below M. -/
theorem grid_more {N M i c : Nat} {hs : List Hd} {w2 w3 : World} {ov : Value} {a : Option Addr} {l : List Int} {o : Obj} (hin : ∀ h ∈ hs, RowIn w2 N M 3 h.a (intCells h.l)) (hap : Apts hs)
    (hown : w2.ownsRow N 24 1 ov i (hdCells hs)) (hN : N ≤ M) (hM : M ≤ w2.heap.size) (hf : Fresh w2 M 3 a (intCells l)) (hg : (w2.alloc o).grownBy w3 ov.ownBlock) (hlc : l.length ≤ c) :
    (∀ h ∈ hs ++ [(⟨a, c, l⟩ : Hd)], RowIn w3 N w3.heap.size 3 h.a (intCells h.l)) ∧ Apts (hs ++ [(⟨a, c, l⟩ : Hd)]) := by
  have hal : Below w2.heap.size w2 (w2.alloc o) := (Below.refl w2.heap.size w2).alloc (Nat.le_refl _) o
  have hty := own_type (hown.alloc o)
  have hs3 : w2.heap.size ≤ w3.heap.size := Nat.le_trans hal.size hg.size
  have hold : ∀ h ∈ hs, RowIn w3 N M 3 h.a (intCells h.l) := fun h hh => ((hin h hh).below hal).grownOf hg (by decide) hty
  have hnew : RowIn w3 M w2.heap.size 3 a (intCells l) := ((RowIn.of_fresh hf).below hal).grownOf hg (by decide) hty
  constructor
  · intro h hh
    rcases List.mem_append.1 hh with hh | hh
    · exact (hold h hh).mono (Nat.le_refl _) (by omega)
    · simp only [List.mem_singleton] at hh
      subst hh
      exact hnew.mono hN hs3
  · refine hap.snoc (fun x hx => ?_) hlc
    rcases hold x hx with e | ⟨g, o1, all, e, e1, e2, _⟩
    · exact Or.inl (by simpa [intCells] using e)
    · rcases hnew with e' | ⟨g', o', all', e', e1', e2', _⟩
      · exact Or.inr (Or.inl (by simpa [intCells] using e'))
      · right; right
        intro g1 o1 g2 o2 h1 h2
        rw [e] at h1; cases h1
        rw [show (⟨a, c, l⟩ : Hd).a = a from rfl, e'] at h2; cases h2
        omega
/-- append of one element, where the size of memory is shown by another term. -/
theorem append_one_at {P : Program} {ops : Array Oper} {rest : List Oper} {o : Oper} {a : Act} {Q : Exit → Act → World → Prop} {W : World} {u : Value} {te : TypeId} (N0 : Nat) (h0 : W.heap.size = N0) (hgd : o.guard = none) (s x : Operand) (t : TypeId)
    (ho : o.op = .call { callee := .builtin .append, args := #[s, x], argTypes := #[t, t] })
    (base : Nat) (e : TypeId) (i : TypeInfo) (z : Value) (bytes : Nat) (ht : P.underlying t = some (.slice e)) (hi : P.info? e = some i) (hz : i.zero = some z)
    (hsize : i.size = 1) (hby : i.bytes = bytes) (hzs : z.cells.size = 1)
    (v : Value) (n : Nat) (xs : List Value) (hs : a.eval s = v) (hown : W.ownsRow base e 1 v n xs)
    (hu : u.oneCell' = true) (c : Nat) (hx : a.eval x = .slice (some ⟨N0, 0, none⟩) 1 c)
    (h63 : n + 1 ≤ maxLen) (hbytes : (n + 1) * bytes ≤ 140737488355328) (hbase : base ≤ W.heap.size)
    (h : ∀ v' w', w'.ownsRow base e 1 v' (n + 1) (xs ++ [u]) → (W.alloc (.cells #[u] te)).grownBy w' v.ownBlock → v' ≠ .slice none 0 0 → wpList P ops Q rest (a.put o.dst v') w') :
    wpList P ops Q (o :: rest) a (W.alloc (.cells #[u] te)) := by
  subst h0
  exact append_one hgd s x t ho base e i z bytes ht hi hz hsize hby hzs v n xs hs hown hu c hx h63 hbytes hbase h
end Go.Proofs.YtamgimdjnmcpaaaDoor
