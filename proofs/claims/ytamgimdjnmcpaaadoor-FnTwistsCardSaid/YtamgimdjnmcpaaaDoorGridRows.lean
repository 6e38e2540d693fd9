/-
  Rows of rows that a call makes by appends, or holds in one literal; what a call that hands rows and a bool back gives.
-/
import Derived.Test.YtamgimdjnmcpaaaDoorBase
import Derived.Test.YtamgimdjnmcpaaaDoorSlice
import Derived.Test.YtamgimdjnmcpaaaDoorIntRow
import Derived.Test.YtamgimdjnmcpaaaDoorInts
import Derived.Test.YtamgimdjnmcpaaaDoorOwn
import Derived.Test.YtamgimdjnmcpaaaDoorGrid
namespace Go.Proofs.YtamgimdjnmcpaaaDoor
open Go.RowKit

theorem RowIn.grownOf {w w' : World} {lo hi : Nat} {t : TypeId} {a : Option Addr} {cs : List Value} {row : Option Nat} (h : RowIn w lo hi t a cs) (hg : w.grownBy w' row) {e : TypeId} (he : e ≠ t) (hr : ∀ k, row = some k → ∃ cur, w.heap[k]? = some (.cells cur e (0, 0))) : RowIn w' lo hi t a cs := by
  rcases h with h | ⟨g, o, all, rfl, h3, h4, hk, hc⟩
  · exact Or.inl h
  · refine Or.inr ⟨g, o, all, rfl, h3, h4, hk.grown hg (fun e' => ?_), hc⟩
    obtain ⟨cur, h5⟩ := hr g e'.symm
    unfold Blk at hk
    rw [hk] at h5
    injection h5 with h5; injection h5 with _ h6 _
    exact he h6.symm
theorem own_type {w : World} {base n : Nat} {e : TypeId} {v : Value} {xs : List Value} (h : w.ownsRow base e 1 v n xs) : ∀ k, v.ownBlock = some k → ∃ cur, w.heap[k]? = some (.cells cur e (0, 0)) := by
  intro k hk
  rcases h.2 with ⟨rfl, _⟩ | ⟨g, cap, cur, rfl, _, hh, _⟩
  · cases hk
  · cases hk; exact ⟨cur, hh⟩
/-- One polygon more. -/
theorem grid_step {N i c : Nat} {hs : List Hd} {wr w2 w3 : World} {ov : Value} {a : Option Addr} {l : List Int} {o : Obj} (hin : ∀ h ∈ hs, RowIn wr N wr.heap.size 3 h.a (intCells h.l)) (hap : Apts hs)
    (hown : w2.ownsRow N 24 1 ov i (hdCells hs)) (hN : N ≤ wr.heap.size) (hf : Fresh w2 wr.heap.size 3 a (intCells l)) (hb : Below wr.heap.size wr w2) (hg : (w2.alloc o).grownBy w3 ov.ownBlock) (hlc : l.length ≤ c) :
    (∀ h ∈ hs ++ [(⟨a, c, l⟩ : Hd)], RowIn w3 N w3.heap.size 3 h.a (intCells h.l)) ∧ Apts (hs ++ [(⟨a, c, l⟩ : Hd)]) := by
  have hal : Below w2.heap.size w2 (w2.alloc o) := (Below.refl w2.heap.size w2).alloc (Nat.le_refl _) o
  have hty := own_type (hown.alloc o)
  have hs3 : w2.heap.size ≤ w3.heap.size := Nat.le_trans hal.size hg.size
  have hs2 := hb.size
  have hold : ∀ h ∈ hs, RowIn w3 N wr.heap.size 3 h.a (intCells h.l) := fun h hh => (((hin h hh).below hb).below hal).grownOf hg (by decide) hty
  have hnew : RowIn w3 wr.heap.size w2.heap.size 3 a (intCells l) := ((RowIn.of_fresh hf).below hal).grownOf hg (by decide) hty
  constructor
  · intro h hh
    rcases List.mem_append.1 hh with hh | hh
    · exact (hold h hh).mono (Nat.le_refl _) (by omega)
    · simp only [List.mem_singleton] at hh
      subst hh
      exact hnew.mono hN hs3
  · refine hap.snoc (fun x hx => ?_) hlc
    rcases hold x hx with e | ⟨g, o1, all, e, e1, e2, _⟩
    · exact Or.inl (by simpa [intCells] using e)
    · rcases hnew with e' | ⟨g', o', all', e', e1', e2', _⟩
      · exact Or.inr (Or.inl (by simpa [intCells] using e'))
      · right; right
        intro g1 o1 g2 o2 h1 h2
        rw [e] at h1; cases h1
        rw [show (⟨a, c, l⟩ : Hd).a = a from rfl, e'] at h2; cases h2
        omega
theorem grid_done {w : World} {N n : Nat} {hs : List Hd} {v : Value} (hown : w.ownsRow N 24 1 v n (hdCells hs)) (hn : hs.length = n) (hin : ∀ h ∈ hs, RowIn w N w.heap.size 3 h.a (intCells h.l)) (hap : Apts hs) :
    ∃ a c, v = .slice a n c ∧ n ≤ c ∧ c ≤ maxLen ∧ GridIn w N w.heap.size a (hs.map Hd.l) := by
  obtain ⟨a, c, rfl, hc, hf⟩ := own_fresh hown (by rw [hdCells_len]; exact hn)
  refine ⟨a, c, rfl, hc, ?_, ⟨hs, rfl, RowIn.of_fresh hf, hin, hap⟩⟩
  rcases hown.2 with ⟨e, _⟩ | ⟨g, cap, cur, e, _, _, _, hm, _⟩
  · cases e; unfold maxLen; omega
  · cases e; exact hm
/-- The call gives these rows, in memory of its own, and a bool. -/
def GivesRows2 (w : World) (L : List (List Int)) (b : Bool) (e : Ending) (w' : World) : Prop :=
  ∃ a c, e = .returned (.tuple #[.slice a L.length c, .bool b]) ∧ L.length ≤ c ∧ c ≤ maxLen ∧ GridIn w' w.heap.size w'.heap.size a L ∧ Below w.heap.size w w'
theorem GivesRows2.none {w w' : World} {a : Option Addr} {c : Nat} {b : Bool} (hb : Below w.heap.size w w') (hc : c ≤ maxLen) : GivesRows2 w [] b (.returned (.tuple #[.slice a 0 c, .bool b])) w' :=
  ⟨a, c, rfl, Nat.zero_le _, hc, GridIn.nil _ _ _ _, hb⟩
theorem made_rows {N : Nat} {w : World} (h : w.heap.size = N) : (w.alloc (.cells #[] 24)).ownsRow N 24 1 (.slice (some ⟨w.heap.size, 0, none⟩) 0 0) 0 (hdCells []) :=
  World.ownsRow_made (base := N) (e := 24) (size := 1) w #[] 0 (by omega) (by unfold maxLen; omega) (by rfl)


/-- A row of the call's own is laid in a literal of one row. -/
theorem grid_single {w : World} {N c : Nat} {a : Option Addr} {l : List Int} (hf : Fresh w N 3 a (intCells l)) (hN : N ≤ w.heap.size) (hlc : l.length ≤ c) :
    GridIn (w.alloc (.cells #[.slice a l.length c] 24)) N (w.heap.size + 1) (some ⟨w.heap.size, 0, none⟩) [l] := by
  refine ⟨[⟨a, c, l⟩], rfl, RowIn.of_blk (Blk.new w _ _) hN (by omega), fun h hh => ?_, Apts.one hlc⟩
  rw [List.mem_singleton.1 hh]
  exact ((RowIn.of_fresh hf).below ((Below.refl w.heap.size w).alloc (Nat.le_refl _) _)).mono (Nat.le_refl _) (by omega)
/-- append of a literal of elements of one cell, to a row of the call's own. -/
theorem append_lits {P : Program} {ops : Array Oper} {rest : List Oper} {o : Oper} {a : Act} {Q : Exit → Act → World → Prop} {W : World} (us : List Value) (m : Nat) (hm : us.length = m) {te : TypeId} (hgd : o.guard = none) (s x : Operand) (t : TypeId)
    (ho : o.op = .call { callee := .builtin .append, args := #[s, x], argTypes := #[t, t] })
    (base : Nat) (e : TypeId) (i : TypeInfo) (z : Value) (bytes : Nat) (ht : P.underlying t = some (.slice e)) (hi : P.info? e = some i) (hz : i.zero = some z)
    (hsize : i.size = 1) (hby : i.bytes = bytes) (hzs : z.cells.size = 1)
    (v : Value) (n : Nat) (xs : List Value) (hs : a.eval s = v) (hown : W.ownsRow base e 1 v n xs)
    (h1 : ∀ u ∈ us, u.oneCell' = true) (c : Nat) (hx : a.eval x = .slice (some ⟨W.heap.size, 0, none⟩) m c)
    (h63 : n + m ≤ maxLen) (hbytes : (n + m) * bytes ≤ 140737488355328) (hbase : base ≤ W.heap.size)
    (h : ∀ v' w', w'.ownsRow base e 1 v' (n + m) (xs ++ us) → (W.alloc (.cells us.toArray te)).grownBy w' v.ownBlock → wpList P ops Q rest (a.put o.dst v') w') :
    wpList P ops Q (o :: rest) a (W.alloc (.cells us.toArray te)) :=
  wpList_append_own _ hgd s x t ho base e i z 1 bytes ht hi hz hsize hby hzs (by decide) v n xs hs (hown.alloc _) ⟨W.heap.size, 0, none⟩ m c us hx (by rw [hm, Nat.mul_one])
    (fun j y hj => by
      have hb : Blk (W.alloc (.cells us.toArray te)) W.heap.size te us.toArray := Blk.new W te _
      have hadd : (⟨W.heap.size, 0, none⟩ : Addr).add j = ⟨W.heap.size, j, none⟩ := by unfold Addr.add; split <;> simp_all
      rw [hadd, hb.cell j]
      simpa using hj)
    h1 h63 hbytes (Nat.le_trans hbase (by simp)) (fun v' w' e1 e2 _ => h v' w' e1 e2)
end Go.Proofs.YtamgimdjnmcpaaaDoor
