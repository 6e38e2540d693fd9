/-
  Rows of rows that a call makes by appends, or holds in one literal; what a call that hands rows and a bool back gives. Rows of literals that a call gives: the relation, and what one row more asks for. append of a row, and where it lies then. A row of integers of a call's own, made by appends. Rows of literals that a call makes by appends.
-/
import Derived.Test.YtamgimdjnmcpaaaGreatBase
import Derived.Test.YtamgimdjnmcpaaaGreatSlice
import Derived.Test.YtamgimdjnmcpaaaGreatIntRow
import Derived.Test.YtamgimdjnmcpaaaGreatInts
import Derived.Test.YtamgimdjnmcpaaaGreatOwn
import Derived.Test.YtamgimdjnmcpaaaGreatGrid
import Derived.Test.YtamgimdjnmcpaaaGreatGridWalk
import Derived.Deep.Upon
import Derived.Deep.AppendSrc
import Derived.Lib.SlFresh
import Derived.Test.YtamgimdjnmcpaaaGreatAppend
namespace Go.Proofs.YtamgimdjnmcpaaaGreat
open Go.RowKit

theorem RowIn.grownOf {w w' : World} {lo hi : Nat} {t : TypeId} {a : Option Addr} {cs : List Value} {row : Option Nat} (h : RowIn w lo hi t a cs) (hg : w.grownBy w' row) {e : TypeId} (he : e ≠ t) (hr : ∀ k, row = some k → ∃ cur, w.heap[k]? = some (.cells cur e (0, 0))) : RowIn w' lo hi t a cs := by
  rcases h with h | ⟨g, o, all, rfl, h3, h4, hk, hc⟩
  · exact Or.inl h
  · refine Or.inr ⟨g, o, all, rfl, h3, h4, hk.grown hg (fun e' => ?_), hc⟩
    obtain ⟨cur, h5⟩ := hr g e'.symm
    unfold Blk at hk
    rw [hk] at h5
    injection h5 with h5; injection h5 with _ h6 _
    exact he h6.symm
theorem own_type {w : World} {base n : Nat} {e : TypeId} {v : Value} {xs : List Value} (h : w.ownsRow base e 1 v n xs) : ∀ k, v.ownBlock = some k → ∃ cur, w.heap[k]? = some (.cells cur e (0, 0)) := by
  intro k hk
  rcases h.2 with ⟨rfl, _⟩ | ⟨g, cap, cur, rfl, _, hh, _⟩
  · cases hk
  · cases hk; exact ⟨cur, hh⟩
/-- One polygon more. -/
theorem grid_step {N i c : Nat} {hs : List Hd} {wr w2 w3 : World} {ov : Value} {a : Option Addr} {l : List Int} {o : Obj} (hin : ∀ h ∈ hs, RowIn wr N wr.heap.size 3 h.a (intCells h.l)) (hap : Apts hs)
    (hown : w2.ownsRow N 30 1 ov i (hdCells hs)) (hN : N ≤ wr.heap.size) (hf : Fresh w2 wr.heap.size 3 a (intCells l)) (hb : Below wr.heap.size wr w2) (hg : (w2.alloc o).grownBy w3 ov.ownBlock) (hlc : l.length ≤ c) :
    (∀ h ∈ hs ++ [(⟨a, c, l⟩ : Hd)], RowIn w3 N w3.heap.size 3 h.a (intCells h.l)) ∧ Apts (hs ++ [(⟨a, c, l⟩ : Hd)]) := by
  have hal : Below w2.heap.size w2 (w2.alloc o) := (Below.refl w2.heap.size w2).alloc (Nat.le_refl _) o
  have hty := own_type (hown.alloc o)
  have hs3 : w2.heap.size ≤ w3.heap.size := Nat.le_trans hal.size hg.size
  have hs2 := hb.size
  have hold : ∀ h ∈ hs, RowIn w3 N wr.heap.size 3 h.a (intCells h.l) := fun h hh => (((hin h hh).below hb).below hal).grownOf hg (by decide) hty
  have hnew : RowIn w3 wr.heap.size w2.heap.size 3 a (intCells l) := ((RowIn.of_fresh hf).below hal).grownOf hg (by decide) hty
  constructor
  · intro h hh
    rcases List.mem_append.1 hh with hh | hh
    · exact (hold h hh).mono (Nat.le_refl _) (by omega)
    · simp only [List.mem_singleton] at hh
      subst hh
      exact hnew.mono hN hs3
  · refine hap.snoc (fun x hx => ?_) hlc
    rcases hold x hx with e | ⟨g, o1, all, e, e1, e2, _⟩
    · exact Or.inl (by simpa [intCells] using e)
    · rcases hnew with e' | ⟨g', o', all', e', e1', e2', _⟩
      · exact Or.inr (Or.inl (by simpa [intCells] using e'))
      · right; right
        intro g1 o1 g2 o2 h1 h2
        rw [e] at h1; cases h1
        rw [show (⟨a, c, l⟩ : Hd).a = a from rfl, e'] at h2; cases h2
        omega
theorem grid_done {w : World} {N n : Nat} {hs : List Hd} {v : Value} (hown : w.ownsRow N 30 1 v n (hdCells hs)) (hn : hs.length = n) (hin : ∀ h ∈ hs, RowIn w N w.heap.size 3 h.a (intCells h.l)) (hap : Apts hs) :
    ∃ a c, v = .slice a n c ∧ n ≤ c ∧ c ≤ maxLen ∧ GridIn w N w.heap.size a (hs.map Hd.l) := by
  obtain ⟨a, c, rfl, hc, hf⟩ := own_fresh hown (by rw [hdCells_len]; exact hn)
  refine ⟨a, c, rfl, hc, ?_, ⟨hs, rfl, RowIn.of_fresh hf, hin, hap⟩⟩
  rcases hown.2 with ⟨e, _⟩ | ⟨g, cap, cur, e, _, _, _, hm, _⟩
  · cases e; unfold maxLen; omega
  · cases e; exact hm
/-- The call gives these rows, in memory of its own, and a bool. -/
def GivesRows2 (w : World) (L : List (List Int)) (b : Bool) (e : Ending) (w' : World) : Prop :=
  ∃ a c, e = .returned (.tuple #[.slice a L.length c, .bool b]) ∧ L.length ≤ c ∧ c ≤ maxLen ∧ GridIn w' w.heap.size w'.heap.size a L ∧ Below w.heap.size w w'
theorem GivesRows2.none {w w' : World} {a : Option Addr} {c : Nat} {b : Bool} (hb : Below w.heap.size w w') (hc : c ≤ maxLen) : GivesRows2 w [] b (.returned (.tuple #[.slice a 0 c, .bool b])) w' :=
  ⟨a, c, rfl, Nat.zero_le _, hc, GridIn.nil _ _ _ _, hb⟩
theorem made_rows {N : Nat} {w : World} (h : w.heap.size = N) : (w.alloc (.cells #[] 30)).ownsRow N 30 1 (.slice (some ⟨w.heap.size, 0, none⟩) 0 0) 0 (hdCells []) :=
  World.ownsRow_made (base := N) (e := 30) (size := 1) w #[] 0 (by omega) (by unfold maxLen; omega) (by rfl)


/-- A row of the call's own is laid in a literal of one row. -/
theorem grid_single {w : World} {N c : Nat} {a : Option Addr} {l : List Int} (hf : Fresh w N 3 a (intCells l)) (hN : N ≤ w.heap.size) (hlc : l.length ≤ c) :
    GridIn (w.alloc (.cells #[.slice a l.length c] 30)) N (w.heap.size + 1) (some ⟨w.heap.size, 0, none⟩) [l] := by
  refine ⟨[⟨a, c, l⟩], rfl, RowIn.of_blk (Blk.new w _ _) hN (by omega), fun h hh => ?_, Apts.one hlc⟩
  rw [List.mem_singleton.1 hh]
  exact ((RowIn.of_fresh hf).below ((Below.refl w.heap.size w).alloc (Nat.le_refl _) _)).mono (Nat.le_refl _) (by omega)
/-- append of a literal of elements of one cell, to a row of the call's own. -/
theorem append_lits {P : Program} {ops : Array Oper} {rest : List Oper} {o : Oper} {a : Act} {Q : Exit → Act → World → Prop} {W : World} (us : List Value) (m : Nat) (hm : us.length = m) {te : TypeId} (hgd : o.guard = none) (s x : Operand) (t : TypeId)
    (ho : o.op = .call { callee := .builtin .append, args := #[s, x], argTypes := #[t, t] })
    (base : Nat) (e : TypeId) (i : TypeInfo) (z : Value) (bytes : Nat) (ht : P.underlying t = some (.slice e)) (hi : P.info? e = some i) (hz : i.zero = some z)
    (hsize : i.size = 1) (hby : i.bytes = bytes) (hzs : z.cells.size = 1)
    (v : Value) (n : Nat) (xs : List Value) (hs : a.eval s = v) (hown : W.ownsRow base e 1 v n xs)
    (h1 : ∀ u ∈ us, u.oneCell' = true) (c : Nat) (hx : a.eval x = .slice (some ⟨W.heap.size, 0, none⟩) m c)
    (h63 : n + m ≤ maxLen) (hbytes : (n + m) * bytes ≤ 140737488355328) (hbase : base ≤ W.heap.size)
    (h : ∀ v' w', w'.ownsRow base e 1 v' (n + m) (xs ++ us) → (W.alloc (.cells us.toArray te)).grownBy w' v.ownBlock → wpList P ops Q rest (a.put o.dst v') w') :
    wpList P ops Q (o :: rest) a (W.alloc (.cells us.toArray te)) :=
  wpList_append_own _ hgd s x t ho base e i z 1 bytes ht hi hz hsize hby hzs (by decide) v n xs hs (hown.alloc _) ⟨W.heap.size, 0, none⟩ m c us hx (by rw [hm, Nat.mul_one])
    (fun j y hj => by
      have hb : Blk (W.alloc (.cells us.toArray te)) W.heap.size te us.toArray := Blk.new W te _
      have hadd : (⟨W.heap.size, 0, none⟩ : Addr).add j = ⟨W.heap.size, j, none⟩ := by unfold Addr.add; split <;> simp_all
      rw [hadd, hb.cell j]
      simpa using hj)
    h1 h63 hbytes (Nat.le_trans hbase (by simp)) (fun v' w' e1 e2 _ => h v' w' e1 e2)
end Go.Proofs.YtamgimdjnmcpaaaGreat
namespace Go.Proofs.YtamgimdjnmcpaaaGreat
open Go.RowKit

/-- The call gives these rows, in memory of its own. -/
def GivesRows (w : World) (L : List (List Int)) (e : Ending) (w' : World) : Prop :=
  ∃ a c, e = .returned (.slice a L.length c) ∧ L.length ≤ c ∧ c ≤ maxLen ∧ GridIn w' w.heap.size w'.heap.size a L ∧ Below w.heap.size w w'
theorem GivesRows.none {w w' : World} {a : Option Addr} (hb : Below w.heap.size w w') : GivesRows w [] (.returned (.slice a 0 0)) w' := ⟨_, _, rfl, Nat.le_refl _, Nat.zero_le _, GridIn.nil _ _ _ _, hb⟩
theorem GivesRows.later {w w0 w' : World} {L : List (List Int)} {e : Ending} (h : GivesRows w0 L e w') (hb : Below w.heap.size w w0) : GivesRows w L e w' := by
  obtain ⟨a, c, rfl, h1, h2, h3, h4⟩ := h
  exact ⟨a, c, rfl, h1, h2, h3.mono hb.size (Nat.le_refl _), hb.trans (h4.mono hb.size)⟩
/-- One row more, behind rows that lie below M. -/
theorem grid_more {N M i c : Nat} {hs : List Hd} {w2 w3 : World} {ov : Value} {a : Option Addr} {l : List Int} {o : Obj} (hin : ∀ h ∈ hs, RowIn w2 N M 3 h.a (intCells h.l)) (hap : Apts hs)
    (hown : w2.ownsRow N 30 1 ov i (hdCells hs)) (hN : N ≤ M) (hM : M ≤ w2.heap.size) (hf : Fresh w2 M 3 a (intCells l)) (hg : (w2.alloc o).grownBy w3 ov.ownBlock) (hlc : l.length ≤ c) :
    (∀ h ∈ hs ++ [(⟨a, c, l⟩ : Hd)], RowIn w3 N w3.heap.size 3 h.a (intCells h.l)) ∧ Apts (hs ++ [(⟨a, c, l⟩ : Hd)]) := by
  have hal : Below w2.heap.size w2 (w2.alloc o) := (Below.refl w2.heap.size w2).alloc (Nat.le_refl _) o
  have hty := own_type (hown.alloc o)
  have hs3 : w2.heap.size ≤ w3.heap.size := Nat.le_trans hal.size hg.size
  have hold : ∀ h ∈ hs, RowIn w3 N M 3 h.a (intCells h.l) := fun h hh => ((hin h hh).below hal).grownOf hg (by decide) hty
  have hnew : RowIn w3 M w2.heap.size 3 a (intCells l) := ((RowIn.of_fresh hf).below hal).grownOf hg (by decide) hty
  constructor
  · intro h hh
    rcases List.mem_append.1 hh with hh | hh
    · exact (hold h hh).mono (Nat.le_refl _) (by omega)
    · simp only [List.mem_singleton] at hh
      subst hh
      exact hnew.mono hN hs3
  · refine hap.snoc (fun x hx => ?_) hlc
    rcases hold x hx with e | ⟨g, o1, all, e, e1, e2, _⟩
    · exact Or.inl (by simpa [intCells] using e)
    · rcases hnew with e' | ⟨g', o', all', e', e1', e2', _⟩
      · exact Or.inr (Or.inl (by simpa [intCells] using e'))
      · right; right
        intro g1 o1 g2 o2 h1 h2
        rw [e] at h1; cases h1
        rw [show (⟨a, c, l⟩ : Hd).a = a from rfl, e'] at h2; cases h2
        omega
/-- append of one element, where the size of memory is shown by another term. -/
theorem append_one_at {P : Program} {ops : Array Oper} {rest : List Oper} {o : Oper} {a : Act} {Q : Exit → Act → World → Prop} {W : World} {u : Value} {te : TypeId} (N0 : Nat) (h0 : W.heap.size = N0) (hgd : o.guard = none) (s x : Operand) (t : TypeId)
    (ho : o.op = .call { callee := .builtin .append, args := #[s, x], argTypes := #[t, t] })
    (base : Nat) (e : TypeId) (i : TypeInfo) (z : Value) (bytes : Nat) (ht : P.underlying t = some (.slice e)) (hi : P.info? e = some i) (hz : i.zero = some z)
    (hsize : i.size = 1) (hby : i.bytes = bytes) (hzs : z.cells.size = 1)
    (v : Value) (n : Nat) (xs : List Value) (hs : a.eval s = v) (hown : W.ownsRow base e 1 v n xs)
    (hu : u.oneCell' = true) (c : Nat) (hx : a.eval x = .slice (some ⟨N0, 0, none⟩) 1 c)
    (h63 : n + 1 ≤ maxLen) (hbytes : (n + 1) * bytes ≤ 140737488355328) (hbase : base ≤ W.heap.size)
    (h : ∀ v' w', w'.ownsRow base e 1 v' (n + 1) (xs ++ [u]) → (W.alloc (.cells #[u] te)).grownBy w' v.ownBlock → v' ≠ .slice none 0 0 → wpList P ops Q rest (a.put o.dst v') w') :
    wpList P ops Q (o :: rest) a (W.alloc (.cells #[u] te)) := by
  subst h0
  exact append_one hgd s x t ho base e i z bytes ht hi hz hsize hby hzs v n xs hs hown hu c hx h63 hbytes hbase h
end Go.Proofs.YtamgimdjnmcpaaaGreat
namespace Go.Proofs.YtamgimdjnmcpaaaGreat
open Go.RowKit

theorem append_row_new {P : Program} {ops : Array Oper} {rest : List Oper} {o : Oper} {a : Act} {Q : Exit → Act → World → Prop} {W : World} (hgd : o.guard = none) (s x : Operand) (t : TypeId)
    (ho : o.op = .call { callee := .builtin .append, args := #[s, x], argTypes := #[t, t] })
    (base : Nat) (e : TypeId) (i : TypeInfo) (z : Value) (bytes : Nat) (ht : P.underlying t = some (.slice e)) (hi : P.info? e = some i) (hz : i.zero = some z)
    (hsize : i.size = 1) (hby : i.bytes = bytes) (hzs : z.cells.size = 1)
    (v : Value) (n : Nat) (xs : List Value) (hs : a.eval s = v) (hown : W.ownsRow base e 1 v n xs)
    (ad : Option Addr) (m c : Nat) (cs : List Value) (hx : a.eval x = .slice ad m c) (hr : RowAt W ad cs) (hm : cs.length = m) (hu : ∀ u ∈ cs, u.oneCell' = true)
    (h63 : n + m ≤ maxLen) (hbytes : (n + m) * bytes ≤ 140737488355328) (hbase : base ≤ W.heap.size)
    (h : ∀ v' w', w'.ownsRow base e 1 v' (n + m) (xs ++ cs) → W.grownBy w' v.ownBlock → (v'.ownBlock = v.ownBlock ∨ v'.ownBlock = some W.heap.size) → wpList P ops Q rest (a.put o.dst v') w') :
    wpList P ops Q (o :: rest) a W := by
  rcases hr with rfl | ⟨b, off, rfl, hlt, hc⟩
  · obtain rfl : m = 0 := hm.symm
    have hv : ∃ bo cap, v = .slice bo n cap ∧ n ≤ cap := by
      obtain ⟨_, ⟨h1, rfl⟩ | ⟨g, cap, cur, h1, _, _, hle, _⟩⟩ := hown
      · exact ⟨none, 0, h1, Nat.le_refl _⟩
      · exact ⟨_, cap, h1, hle⟩
    obtain ⟨bo, cap, rfl, hle⟩ := hv
    have hsrc : Src P i.size t (.slice ad 0 c) 0 [] W := by
      cases ad with
      | none => exact Src.ofNil W ht c
      | some ad => exact Src.ofSlice W ht ad 0 c [] (by simp) (fun j u hj => by simp at hj) (fun _ h => by cases h)
    refine Lib.wpList_append_run_sl W hgd s x t ho _ _ hs hx (run_append_nothing W t t o.type e i ht hi bo n cap hle _ hsrc) (h _ _ ?_ (World.grownBy.refl _ _) (Or.inl rfl))
    simpa using hown
  · exact wpList_append_new (w := W) hgd s x t ho base e i z 1 bytes ht hi hz hsize hby hzs (by decide) v n xs hs hown ⟨b, off, none⟩ m c cs hx (by rw [hm, Nat.mul_one])
      (fun j u hj => by rw [show (⟨b, off, none⟩ : Addr).add j = ⟨b, off + j, none⟩ from by unfold Addr.add; split <;> simp_all]; exact hc j u hj) hu h63 hbytes hbase (fun v' w' h1 h2 h3 => h v' w' h1 h2 h3)
end Go.Proofs.YtamgimdjnmcpaaaGreat
namespace Go.Proofs.YtamgimdjnmcpaaaGreat
open Go.RowKit

/-- The integers l of the call's own, from the block N on. -/
def RowI (w : World) (N : Nat) (wr : World) (ov : Value) (l : List Int) : Prop := wr.ownsRow N 3 1 ov l.length (intCells l) ∧ Below N w wr
theorem RowI.nil {w wr : World} {N : Nat} (hb : Below N w wr) : RowI w N wr (.slice none 0 0) [] := ⟨⟨rfl, Or.inl ⟨rfl, rfl⟩⟩, hb⟩
theorem RowI.made {w wr : World} {N : Nat} (hb : Below N w wr) (hN : N ≤ wr.heap.size) : RowI w N (wr.alloc (.cells #[] 3)) (.slice (some ⟨wr.heap.size, 0, none⟩) 0 0) [] :=
  ⟨own_mono (own_made rfl) hN, hb.alloc hN _⟩
theorem RowI.more {w wr w3 : World} {N : Nat} {ov v3 : Value} {l : List Int} {x : Int} {o : Obj} (h : RowI w N wr ov l) (hN : N ≤ wr.heap.size)
    (hown : w3.ownsRow N 3 1 v3 (l.length + 1) (intCells l ++ [.int .i64 x])) (hg : (wr.alloc o).grownBy w3 ov.ownBlock) : RowI w N w3 v3 (l ++ [x]) := by
  refine ⟨?_, (h.2.alloc hN _).grown hg (by simp; omega) (fun k hk => (h.1.lt k hk).1)⟩
  rw [← intCells_snoc, List.length_append]; exact hown
theorem RowI.below {w wr w' : World} {N : Nat} {ov : Value} {l : List Int} (h : RowI w N wr ov l) (hN : N ≤ wr.heap.size) (hb : Below wr.heap.size wr w') : RowI w N w' ov l :=
  ⟨own_keep h.1 hb (fun k hk => (h.1.lt k hk).2), h.2.trans (hb.mono hN)⟩
theorem RowI.gives {w wr : World} {ov : Value} {l : List Int} (h : RowI w w.heap.size wr ov l) : Gives w l (.returned ov) wr := own_gives h.1 rfl h.2
theorem Gives.form {w w' : World} {l : List Int} {v : Value} (h : Gives w l (.returned v) w') : ∃ a c, v = .slice a l.length c ∧ RowAt w' a (intCells l) ∧ Below w.heap.size w w' := by
  obtain ⟨a, c, e, _, _, h3, h4⟩ := h
  cases e; exact ⟨a, c, rfl, h3.row, h4⟩
theorem Gives.after {w w1 w2 : World} {l : List Int} {v : Value} (h : Gives w l (.returned v) w1) (hb : Below w1.heap.size w1 w2) : Gives w l (.returned v) w2 := by
  obtain ⟨a, c, e, h1, h2, h3, h4⟩ := h
  exact ⟨a, c, e, h1, h2, h3.below hb, h4.trans (hb.mono h4.size)⟩

theorem Gives.nilAt {w w' : World} {a : Option Addr} (hb : Below w.heap.size w w') : Gives w [] (.returned (.slice a 0 0)) w' := ⟨_, _, rfl, Nat.le_refl _, Nat.zero_le _, Or.inl rfl, hb⟩
theorem own_lit0 (W : World) (l : List Int) (n : Nat) (hl : l.length = n) (hm : n ≤ maxLen) : (W.alloc (.cells (intCells l).toArray 3)).ownsRow W.heap.size 3 1 (.slice (some ⟨W.heap.size, 0, none⟩) n n) n (intCells l) := by
  have h := World.ownsRow_lit (base := W.heap.size) (e := 3) (size := 1) W (intCells l).toArray n (Nat.le_refl _) hm (by simp [intCells_len, hl])
  simpa using h

end Go.Proofs.YtamgimdjnmcpaaaGreat
namespace Go.Proofs.YtamgimdjnmcpaaaGreat
open Go.RowKit

/-- The rows L of the call's own, from the block N on. -/
def RowsIn (w : World) (N : Nat) (wr : World) (ov : Value) (L : List (List Int)) : Prop :=
  ∃ hs : List Hd, hs.map Hd.l = L ∧ wr.ownsRow N 30 1 ov L.length (hdCells hs) ∧ (∀ h ∈ hs, RowIn wr N wr.heap.size 3 h.a (intCells h.l)) ∧ Apts hs ∧ Below N w wr
theorem RowsIn.nil {w wr : World} {N : Nat} (hb : Below N w wr) : RowsIn w N wr (.slice none 0 0) [] :=
  ⟨[], rfl, ⟨rfl, Or.inl ⟨rfl, rfl⟩⟩, fun _ h => (by cases h), Apts.nil, hb⟩
theorem RowsIn.made {w wr : World} {N : Nat} (hb : Below N w wr) (hN : N ≤ wr.heap.size) : RowsIn w N (wr.alloc (.cells #[] 30)) (.slice (some ⟨wr.heap.size, 0, none⟩) 0 0) [] :=
  ⟨[], rfl, own_mono (made_rows rfl) hN, fun _ h => (by cases h), Apts.nil, hb.alloc hN _⟩
theorem RowsIn.size {w wr : World} {N : Nat} {ov : Value} {L : List (List Int)} (h : RowsIn w N wr ov L) (hN : N ≤ w.heap.size) : N ≤ wr.heap.size := by
  obtain ⟨hs, _, _, _, _, hb⟩ := h
  have := hb.size; omega
theorem RowsIn.more {w wr w3 : World} {N : Nat} {ov v3 : Value} {hs : List Hd} {L : List (List Int)} {x y : Int} {c : Nat} (h1 : hs.map Hd.l = L) (h2 : wr.ownsRow N 30 1 ov L.length (hdCells hs)) (h3 : ∀ h ∈ hs, RowIn wr N wr.heap.size 3 h.a (intCells h.l)) (h4 : Apts hs) (hb : Below N w wr) (hN : N ≤ wr.heap.size)
    (hc : 2 ≤ c) (hown : w3.ownsRow N 30 1 v3 (L.length + 1) (hdCells hs ++ [.slice (some ⟨wr.heap.size, 0, none⟩) 2 c]))
    (hg : ((wr.alloc (.cells #[.int .i64 x, .int .i64 y] 3)).alloc (.cells #[.slice (some ⟨wr.heap.size, 0, none⟩) 2 c] 30)).grownBy w3 ov.ownBlock) : RowsIn w N w3 v3 (L ++ [[x, y]]) := by
  subst h1
  have hn : (hs.map Hd.l).length = hs.length := List.length_map _
  rw [hn] at h2 hown
  have hb1 : Below wr.heap.size wr (wr.alloc (.cells #[.int .i64 x, .int .i64 y] 3)) := (Below.refl _ _).alloc (Nat.le_refl _) _
  have hf : Fresh (wr.alloc (.cells #[.int .i64 x, .int .i64 y] 3)) wr.heap.size 3 (some ⟨wr.heap.size, 0, none⟩) (intCells [x, y]) := Fresh.of_blk (Blk.new wr 3 #[.int .i64 x, .int .i64 y]) (Nat.le_refl _)
  have hst := grid_step (c := c) (l := [x, y]) h3 h4 (h2.alloc (.cells #[.int .i64 x, .int .i64 y] 3)) hN hf hb1 hg hc
  refine ⟨hs ++ [⟨some ⟨wr.heap.size, 0, none⟩, c, [x, y]⟩], by simp, ?_, hst.1, hst.2, ?_⟩
  · rw [← hdCells_snoc, List.length_append, hn]; exact hown
  · exact ((hb.alloc hN _).alloc (by simp; omega) _).grown hg (by simp; omega) (fun k hk => (h2.lt k hk).1)
theorem RowsIn.gives {w wr : World} {ov : Value} {L : List (List Int)} (h : RowsIn w w.heap.size wr ov L) : GivesRows w L (.returned ov) wr := by
  obtain ⟨hs, rfl, h2, h3, h4, hb⟩ := h
  obtain ⟨a, c, rfl, hc, hm, hg⟩ := grid_done h2 (List.length_map _).symm h3 h4
  exact ⟨a, c, rfl, hc, hm, hg, hb⟩
/-- One row more, made behind the world wr. -/
theorem RowsIn.push {w wr w8 w9 : World} {N c : Nat} {ov v9 : Value} {hs : List Hd} {L : List (List Int)} {a : Option Addr} {l : List Int} {o : Obj} (h1 : hs.map Hd.l = L) (h2 : wr.ownsRow N 30 1 ov L.length (hdCells hs)) (h3 : ∀ h ∈ hs, RowIn wr N wr.heap.size 3 h.a (intCells h.l)) (h4 : Apts hs) (hb : Below N w wr) (hN : N ≤ wr.heap.size)
    (hbw : Below wr.heap.size wr w8) (hf : Fresh w8 wr.heap.size 3 a (intCells l)) (hlc : l.length ≤ c)
    (hown : w9.ownsRow N 30 1 v9 (L.length + 1) (hdCells hs ++ [.slice a l.length c])) (hg : (w8.alloc o).grownBy w9 ov.ownBlock) : RowsIn w N w9 v9 (L ++ [l]) := by
  subst h1
  have hn : (hs.map Hd.l).length = hs.length := List.length_map _
  rw [hn] at h2 hown
  have ho8 := own_keep h2 hbw (fun k hk => (h2.lt k hk).2)
  have hst := grid_more (c := c) (M := wr.heap.size) (fun h hh => (h3 h hh).below hbw) h4 ho8 hN hbw.size hf hg hlc
  refine ⟨hs ++ [⟨a, c, l⟩], by simp, ?_, hst.1, hst.2, ?_⟩
  · rw [← hdCells_snoc, List.length_append, hn]; exact hown
  · exact ((hb.trans (hbw.mono hN)).alloc (Nat.le_trans hN hbw.size) _).grown hg (by have := hbw.size; simp; omega) (fun k hk => (h2.lt k hk).1)
theorem RowsIn.gridIn {w wr : World} {N : Nat} {ov : Value} {L : List (List Int)} (h : RowsIn w N wr ov L) : ∃ a c, ov = .slice a L.length c ∧ GridIn wr N wr.heap.size a L ∧ Below N w wr ∧ L.length ≤ c ∧ c ≤ maxLen := by
  obtain ⟨hs, rfl, h2, h3, h4, hb⟩ := h
  obtain ⟨a, c, rfl, k1, k2, hg⟩ := grid_done h2 (List.length_map _).symm h3 h4
  exact ⟨a, c, by rw [List.length_map], hg, hb, k1, k2⟩
end Go.Proofs.YtamgimdjnmcpaaaGreat
