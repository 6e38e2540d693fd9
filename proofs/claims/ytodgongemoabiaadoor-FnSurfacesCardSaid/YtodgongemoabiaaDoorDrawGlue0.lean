/-
  Sides and polygons that the model's draws of gluings hold.
-/
import Derived.Test.YtodgongemoabiaaDoorBase
import Derived.Test.YtodgongemoabiaaDoorSlice
import Derived.Test.YtodgongemoabiaaDoorInts
import Derived.Test.YtodgongemoabiaaDoorOwn
import Derived.Test.YtodgongemoabiaaDoorAppend
import Derived.Test.YtodgongemoabiaaDoorGrid
import Derived.Test.YtodgongemoabiaaDoorGridWalk
import Derived.Test.YtodgongemoabiaaDoorGridRows
import Derived.Test.YtodgongemoabiaaDoorDraw
import Derived.Deep.RegionLaw
import Derived.Deep.Cut
namespace Go.Proofs.YtodgongemoabiaaDoor
open Go.RowKit

theorem grown_all {w wr w1 : World} {g : Nat} {row : Option Nat} (hg : w.grownBy wr (some g)) (h1 : wr.grownBy w1 row) (hr : ∀ k, row = some k → w.heap.size ≤ k) : w.grownBy w1 (some g) :=
  ⟨h1.os.trans hg.os, h1.tape.trans hg.tape, h1.output.trans hg.output, Nat.le_trans hg.size h1.size, fun i hi hne => (h1.block i (Nat.lt_of_lt_of_le hi hg.size) (fun e => by have := hr i e.symm; omega)).trans (hg.block i hi hne)⟩
theorem own_draw {w w' : World} {base n g : Nat} {e : TypeId} {v : Value} {xs : List Value} (h : w.ownsRow base e 1 v n xs) (hg : w.grownBy w' (some g)) (hgl : g < base) : w'.ownsRow base e 1 v n xs :=
  h.kept hg (by
    rcases h.2 with ⟨hv, _⟩ | ⟨k, cap, cur, hv, hk, _⟩
    · left; rw [hv]; rfl
    · right; rw [hv]; simp [Value.ownBlock]; omega)
def sLen : Value → Nat
  | .slice _ n _ => n
  | _ => 0
def Tiny (l : List Int) : Prop := ∀ x ∈ l, -9 ≤ x ∧ x ≤ 9
theorem Tiny.nil : Tiny [] := fun x h => by cases h
theorem Tiny.snoc {l : List Int} {x : Int} (h : Tiny l) (h0 : -9 ≤ x) (h1 : x ≤ 9) : Tiny (l ++ [x]) := by
  intro y hy
  rcases List.mem_append.1 hy with hy | hy
  · exact h y hy
  · rw [List.mem_singleton.1 hy]; exact ⟨h0, h1⟩
/-- The sides that are drawn, and how far the cursor is. -/
def Sides (w : World) (N g : Nat) (wr : World) (v : Value) (l : List Int) : Prop := wr.ownsRow N 3 1 v l.length (intCells l) ∧ Tiny l ∧ CurAt wr g ∧ w.grownBy wr (some g)

theorem kept_type {w w' : World} {base base' n n' : Nat} {e e' : TypeId} {v v' : Value} {xs xs' : List Value} (h : w.ownsRow base e 1 v n xs) (h' : w.ownsRow base' e' 1 v' n' xs') (he : e ≠ e') (hg : w.grownBy w' v'.ownBlock) : w'.ownsRow base e 1 v n xs := by
  refine h.kept hg ?_
  cases hb : v.ownBlock with
  | none => exact Or.inl rfl
  | some k =>
    right
    intro hk
    obtain ⟨c1, h1⟩ := own_type h k hb
    obtain ⟨c2, h2⟩ := own_type h' k hk.symm
    rw [h1] at h2
    injection h2 with h2; injection h2 with _ h3 _
    exact he h3
/-- append of a literal whose block's number is given. -/
theorem append_litK {P : Program} {ops : Array Oper} {rest : List Oper} {o : Oper} {a : Act} {Q : Exit → Act → World → Prop} {W : World} (u : Value) (K : Nat) (hK : W.heap.size = K) {te : TypeId} (hgd : o.guard = none) (s x : Operand) (t : TypeId)
    (ho : o.op = .call { callee := .builtin .append, args := #[s, x], argTypes := #[t, t] })
    (base : Nat) (e : TypeId) (i : TypeInfo) (z : Value) (bytes : Nat) (ht : P.underlying t = some (.slice e)) (hi : P.info? e = some i) (hz : i.zero = some z)
    (hsize : i.size = 1) (hby : i.bytes = bytes) (hzs : z.cells.size = 1)
    (v : Value) (n : Nat) (xs : List Value) (hs : a.eval s = v) (hown : W.ownsRow base e 1 v n xs)
    (hu : u.oneCell' = true) (c : Nat) (hx : a.eval x = .slice (some ⟨K, 0, none⟩) 1 c)
    (h63 : n + 1 ≤ maxLen) (hbytes : (n + 1) * bytes ≤ 140737488355328) (hbase : base ≤ W.heap.size)
    (h : ∀ v' w', w'.ownsRow base e 1 v' (n + 1) (xs ++ [u]) → (W.alloc (.cells #[u] te)).grownBy w' v.ownBlock → wpList P ops Q rest (a.put o.dst v') w') :
    wpList P ops Q (o :: rest) a (W.alloc (.cells #[u] te)) := by
  subst hK
  exact append_one hgd s x t ho base e i z bytes ht hi hz hsize hby hzs v n xs hs hown hu c hx h63 hbytes hbase (fun v' w' h1 h2 _ => h v' w' h1 h2)
def Away (u v : Value) : Prop := ∀ k, u.ownBlock = some k → v.ownBlock ≠ some k
/-- The sides and the polygons, each row in a block of its own. -/
structure Polys (w : World) (N g : Nat) (wr : World) (sv : Value) (l : List Int) (gv : Value) (hs : List Hd) : Prop where
  sides : wr.ownsRow N 3 1 sv l.length (intCells l)
  tiny : Tiny l
  cur : CurAt wr g
  gro : w.grownBy wr (some g)
  outer : wr.ownsRow N 46 1 gv hs.length (hdCells hs)
  inner : ∀ h ∈ hs, wr.ownsRow N 3 1 h.val h.l.length (intCells h.l) ∧ Tiny h.l ∧ ∃ b, h.a = some ⟨b, 0, none⟩
  away : (sv :: hs.map Hd.val).Pairwise Away
/-- One empty polygon more. -/
theorem Polys.push {w : World} {N g : Nat} {wr w3 : World} {sv : Value} {l : List Int} {gv v3 : Value} {hs : List Hd} {o : Obj} (R : Polys w N g wr sv l gv hs) (hN : w.heap.size = N) (hgN : g < N)
    (hg : ((wr.alloc (.cells #[] 3)).alloc o).grownBy w3 gv.ownBlock) (hown : w3.ownsRow N 46 1 v3 (hs.length + 1) (hdCells hs ++ [.slice (some ⟨wr.heap.size, 0, none⟩) 0 0])) :
    Polys w N g w3 sv l v3 (hs ++ [⟨some ⟨wr.heap.size, 0, none⟩, 0, []⟩]) := by
  have hout := (R.outer.alloc (.cells #[] 3)).alloc o
  have hrow : ∀ q, gv.ownBlock = some q → N ≤ q := fun q hq => (R.outer.lt q hq).1
  have hNr : N ≤ wr.heap.size := by have := R.gro.size; omega
  have hnew : w3.ownsRow N 3 1 (.slice (some ⟨wr.heap.size, 0, none⟩) 0 0) 0 (intCells []) :=
    kept_type (own_mono ((own_made (w := wr) rfl).alloc o) hNr) hout (by decide) hg
  refine ⟨kept_type ((R.sides.alloc _).alloc o) hout (by decide) hg, R.tiny, ((R.cur.alloc _).alloc o).above hg (fun q hq => by have := hrow q hq; omega),
    grown_all ((R.gro.trans (World.grownBy_alloc _ _ _)).trans (World.grownBy_alloc _ _ _)) hg (fun q hq => by rw [hN]; exact hrow q hq), ?_, fun h hh => ?_, ?_⟩
  · rw [List.length_append, ← hdCells_snoc]; exact hown
  · rcases List.mem_append.1 hh with hh | hh
    · exact ⟨kept_type (((R.inner h hh).1.alloc _).alloc o) hout (by decide) hg, (R.inner h hh).2⟩
    · rw [List.mem_singleton.1 hh]; exact ⟨hnew, Tiny.nil, _, rfl⟩
  · rw [List.map_append, ← List.cons_append, List.pairwise_append]
    refine ⟨R.away, List.pairwise_singleton _ _, fun u hu v hv => ?_⟩
    rw [List.mem_singleton.1 hv]
    intro k hk hk2
    have hk3 : k = wr.heap.size := by cases hk2; rfl
    rcases List.mem_cons.1 hu with rfl | hu
    · have := (R.sides.lt k hk).2; omega
    · obtain ⟨h, hh, rfl⟩ := List.mem_map.1 hu
      have := ((R.inner h hh).1.lt k hk).2; omega

theorem Polys.draw {w : World} {N g : Nat} {wr w2 : World} {sv : Value} {l : List Int} {gv : Value} {hs : List Hd} (R : Polys w N g wr sv l gv hs) (hgN : g < N) (hc : CurAt w2 g) (hg : wr.grownBy w2 (some g)) : Polys w N g w2 sv l gv hs :=
  ⟨own_draw R.sides hg hgN, R.tiny, hc, R.gro.trans hg, own_draw R.outer hg hgN, fun h hh => ⟨own_draw (R.inner h hh).1 hg hgN, (R.inner h hh).2⟩, R.away⟩
theorem Polys.cell {w : World} {N g G n cg : Nat} {wr : World} {sv : Value} {l : List Int} {hs : List Hd} (R : Polys w N g wr sv l (.slice (some ⟨G, 0, none⟩) n cg) hs) (hn : hs.length = n) {p : Nat} {h : Hd} (hp : hs[p]? = some h) :
    wr.cell? ⟨G, p, none⟩ = some (.slice h.a h.l.length h.c) := by
  obtain ⟨h1, rfl⟩ := List.getElem?_eq_some_iff.1 hp
  have ho := R.outer
  rw [hn] at ho
  rw [ho.cellAt p (by omega), hdCells_get h1]; rfl
theorem own_cap {w : World} {base n c : Nat} {e : TypeId} {a : Addr} {xs : List Value} (h : w.ownsRow base e 1 (.slice (some a) n c) n xs) : n ≤ c ∧ c ≤ maxLen := by
  obtain ⟨_, ⟨h1, _⟩ | ⟨g, cap, cur, h1, _, _, hle, hmx, _⟩⟩ := h
  · cases h1
  · cases h1; exact ⟨hle, hmx⟩
theorem own_rowat {w : World} {base c b : Nat} {l : List Int} (h : w.ownsRow base 3 1 (.slice (some ⟨b, 0, none⟩) l.length c) l.length (intCells l)) : RowAt w (some ⟨b, 0, none⟩) (intCells l) := by
  obtain ⟨a', c', he, _, hf⟩ := own_fresh h (intCells_len l)
  cases he
  exact hf.row
theorem row_dropped {w : World} {b m : Nat} {l : List Int} (h : RowAt w (some ⟨b, 0, none⟩) (intCells l)) : RowAt w (some ⟨b, m, none⟩) (intCells (l.drop m)) := by
  rw [show (⟨b, m, none⟩ : Addr) = ⟨b, 0 + m, none⟩ by rw [Nat.zero_add]]
  rcases h with h | ⟨b', o', e, hlt, hc⟩
  · left
    have : l = [] := by simpa [intCells] using h
    rw [this]; simp [intCells]
  · cases e
    refine Or.inr ⟨b, 0 + m, rfl, hlt, fun i v hv => ?_⟩
    rw [Nat.add_assoc]
    refine hc (m + i) v ?_
    simpa [intCells, List.getElem?_drop] using hv
/-- append of a row to a row of the call's own, as a step of a region that draws. -/
theorem step_append_row2 {P : Program} {ops : Array Oper} {o : Oper} {a : Act} {W : World} {K : Act → World → Prop} {Q : Exit → Act → World → Prop} {E : Prop} (hgd : o.guard = none) (s x : Operand) (t : TypeId)
    (ho : o.op = .call { callee := .builtin .append, args := #[s, x], argTypes := #[t, t] })
    (base : Nat) (e : TypeId) (i : TypeInfo) (z : Value) (bytes : Nat) (ht : P.underlying t = some (.slice e)) (hi : P.info? e = some i) (hz : i.zero = some z)
    (hsize : i.size = 1) (hby : i.bytes = bytes) (hzs : z.cells.size = 1)
    (v : Value) (n : Nat) (xs : List Value) (hs : a.eval s = v) (hown : W.ownsRow base e 1 v n xs)
    (ad : Option Addr) (m c : Nat) (cs : List Value) (hx : a.eval x = .slice ad m c) (hr : RowAt W ad cs) (hm : cs.length = m) (hu : ∀ u ∈ cs, u.oneCell' = true)
    (h63 : n + m ≤ maxLen) (hbytes : (n + m) * bytes ≤ 140737488355328) (hbase : base ≤ W.heap.size)
    (h : ∀ v' w', w'.ownsRow base e 1 v' (n + m) (xs ++ cs) → W.grownBy w' v.ownBlock → K (a.put o.dst v') w') :
    if Region.wanted o (yielded ops a.tmps) = true then Oper.wp P o a W K Q else E := by
  have hw : Region.wanted o (yielded ops a.tmps) = true := by simp [Region.wanted, hgd]
  rw [if_pos hw]
  rcases hr with rfl | ⟨b, off, rfl, hlt, hc⟩
  · obtain rfl : m = 0 := hm.symm
    have hv : ∃ bo cap, v = .slice bo n cap ∧ n ≤ cap := by
      obtain ⟨_, ⟨h1, rfl⟩ | ⟨g, cap, cur, h1, _, _, hle, _⟩⟩ := hown
      · exact ⟨none, 0, h1, Nat.le_refl _⟩
      · exact ⟨_, cap, h1, hle⟩
    obtain ⟨bo, cap, rfl, hle⟩ := hv
    have hsrc : Src P i.size t (.slice ad 0 c) 0 [] W := by
      cases ad with
      | none => exact Src.ofNil W ht c
      | some ad => exact Src.ofSlice W ht ad 0 c [] (by simp) (fun j u hj => by simp at hj) (fun _ h => by cases h)
    refine Lib.wp_append_run_sl W s x t ho _ _ hs hx (run_append_nothing W t t o.type e i ht hi bo n cap hle _ hsrc) (h _ _ ?_ (World.grownBy.refl _ _))
    simpa using hown
  · exact wp_append_own W s x t ho base e i z 1 bytes ht hi hz hsize hby hzs (by decide) v n xs hs hown ⟨b, off, none⟩ m c cs hx (by rw [hm, Nat.mul_one])
      (fun j u hj => by rw [show (⟨b, off, none⟩ : Addr).add j = ⟨b, off + j, none⟩ from by unfold Addr.add; split <;> simp_all]; exact hc j u hj) hu h63 hbytes hbase (fun v' w' h1 h2 _ => h v' w' h1 h2)

/-- append of one element, as a step of a region that draws, and where the row lies then. -/
theorem step_append_lit {P : Program} {ops : Array Oper} {o : Oper} {a : Act} {W : World} {K : Act → World → Prop} {Q : Exit → Act → World → Prop} {E : Prop} (u : Value) (k : Nat) (hk : W.heap.size = k) {te : TypeId} (hgd : o.guard = none) (s x : Operand) (t : TypeId)
    (ho : o.op = .call { callee := .builtin .append, args := #[s, x], argTypes := #[t, t] })
    (base : Nat) (e : TypeId) (i : TypeInfo) (z : Value) (bytes : Nat) (ht : P.underlying t = some (.slice e)) (hi : P.info? e = some i) (hz : i.zero = some z)
    (hsize : i.size = 1) (hby : i.bytes = bytes) (hzs : z.cells.size = 1)
    (v : Value) (n : Nat) (xs : List Value) (hs : a.eval s = v) (hown : W.ownsRow base e 1 v n xs)
    (hu : u.oneCell' = true) (c : Nat) (hx : a.eval x = .slice (some ⟨k, 0, none⟩) 1 c)
    (h63 : n + 1 ≤ maxLen) (hbytes : (n + 1) * bytes ≤ 140737488355328) (hbase : base ≤ W.heap.size)
    (h : ∀ v' w', w'.ownsRow base e 1 v' (n + 1) (xs ++ [u]) → (W.alloc (.cells #[u] te)).grownBy w' v.ownBlock → (v'.ownBlock = v.ownBlock ∨ v'.ownBlock = some (k + 1)) → K (a.put o.dst v') w') :
    if Region.wanted o (yielded ops a.tmps) = true then Oper.wp P o a (W.alloc (.cells #[u] te)) K Q else E := by
  subst hk
  have hw : Region.wanted o (yielded ops a.tmps) = true := by simp [Region.wanted, hgd]
  rw [if_pos hw]
  obtain ⟨v', w', hr, h2, h3, h4⟩ := run_append_new (P := P) (W.alloc (.cells #[u] te)) base t o.type e i z 1 bytes ht hi hz hsize hby hzs (by decide) v n xs (hown.alloc _) ⟨W.heap.size, 0, none⟩ 1 c [u] rfl
    (fun j y hj => by
      cases j with
      | zero =>
        simp only [List.getElem?_cons_zero, Option.some.injEq] at hj
        subst hj
        show (W.alloc (.cells #[u] te)).cell? ⟨W.heap.size, 0, none⟩ = some u
        rw [World.cell?_alloc_at _ _ _ _ rfl]; rfl
      | succ j => simp at hj)
    (fun y hy => by simp only [List.mem_singleton] at hy; rw [hy]; exact hu) h63 hbytes (Nat.le_trans hbase (by simp))
  unfold Oper.wp execOp
  simp only [ho, resolve, invoke, builtin, Sem.run_bind, Sem.run_pure, Result.andThen_ok, List.map_toArray, List.map_cons, List.map_nil, hs, hx, hr]
  exact h v' w' h2 h3 (by rw [World.size_alloc] at h4; exact h4)
/-- A block made beside the polygons is written. -/
theorem Polys.aside {w : World} {N g : Nat} {wr w4 : World} {sv : Value} {l : List Int} {gv : Value} {hs : List Hd} {o : Obj} {K : Nat} (R : Polys w N g wr sv l gv hs) (hN : w.heap.size = N) (hK : K = wr.heap.size) (hg : (wr.alloc o).grownBy w4 (some K)) : Polys w N g w4 sv l gv hs := by
  have keep : ∀ {e : TypeId} {n : Nat} {v : Value} {xs : List Value}, wr.ownsRow N e 1 v n xs → w4.ownsRow N e 1 v n xs := fun {e n v xs} h => (h.alloc o).kept hg (by
    cases hb : v.ownBlock with
    | none => exact Or.inl rfl
    | some k =>
      right
      intro he
      injection he with he
      have := (h.lt k hb).2
      omega)
  have hNr : N ≤ wr.heap.size := by have := R.gro.size; omega
  exact ⟨keep R.sides, R.tiny, (R.cur.alloc o).above hg (fun q hq => by cases hq; have := R.cur.lt; omega), grown_all (R.gro.trans (World.grownBy_alloc _ _ _)) hg (fun q hq => by cases hq; omega), keep R.outer, fun h hh => ⟨keep (R.inner h hh).1, (R.inner h hh).2⟩, R.away⟩
/-- append of a row to a row of the call's own, as a step of a region that draws, and where the row lies then. -/
theorem step_append_rowN {P : Program} {ops : Array Oper} {o : Oper} {a : Act} {W : World} {K : Act → World → Prop} {Q : Exit → Act → World → Prop} {E : Prop} (hgd : o.guard = none) (s x : Operand) (t : TypeId)
    (ho : o.op = .call { callee := .builtin .append, args := #[s, x], argTypes := #[t, t] })
    (base : Nat) (e : TypeId) (i : TypeInfo) (z : Value) (bytes : Nat) (ht : P.underlying t = some (.slice e)) (hi : P.info? e = some i) (hz : i.zero = some z)
    (hsize : i.size = 1) (hby : i.bytes = bytes) (hzs : z.cells.size = 1)
    (v : Value) (n : Nat) (xs : List Value) (hs : a.eval s = v) (hown : W.ownsRow base e 1 v n xs)
    (ad : Option Addr) (m c : Nat) (cs : List Value) (hx : a.eval x = .slice ad m c) (hr : RowAt W ad cs) (hm : cs.length = m) (hu : ∀ u ∈ cs, u.oneCell' = true)
    (h63 : n + m ≤ maxLen) (hbytes : (n + m) * bytes ≤ 140737488355328) (hbase : base ≤ W.heap.size)
    (h : ∀ v' w', w'.ownsRow base e 1 v' (n + m) (xs ++ cs) → W.grownBy w' v.ownBlock → (v'.ownBlock = v.ownBlock ∨ v'.ownBlock = some W.heap.size) → K (a.put o.dst v') w') :
    if Region.wanted o (yielded ops a.tmps) = true then Oper.wp P o a W K Q else E := by
  have hw : Region.wanted o (yielded ops a.tmps) = true := by simp [Region.wanted, hgd]
  rw [if_pos hw]
  rcases hr with rfl | ⟨b, off, rfl, hlt, hc⟩
  · obtain rfl : m = 0 := hm.symm
    have hv : ∃ bo cap, v = .slice bo n cap ∧ n ≤ cap := by
      obtain ⟨_, ⟨h1, rfl⟩ | ⟨g, cap, cur, h1, _, _, hle, _⟩⟩ := hown
      · exact ⟨none, 0, h1, Nat.le_refl _⟩
      · exact ⟨_, cap, h1, hle⟩
    obtain ⟨bo, cap, rfl, hle⟩ := hv
    have hsrc : Src P i.size t (.slice ad 0 c) 0 [] W := by
      cases ad with
      | none => exact Src.ofNil W ht c
      | some ad => exact Src.ofSlice W ht ad 0 c [] (by simp) (fun j u hj => by simp at hj) (fun _ h => by cases h)
    refine Lib.wp_append_run_sl W s x t ho _ _ hs hx (run_append_nothing W t t o.type e i ht hi bo n cap hle _ hsrc) (h _ _ ?_ (World.grownBy.refl _ _) (Or.inl rfl))
    simpa using hown
  · obtain ⟨v', w', hrun, h2, h3, h4⟩ := run_append_new (P := P) W base t o.type e i z 1 bytes ht hi hz hsize hby hzs (by decide) v n xs hown ⟨b, off, none⟩ m c cs (by rw [hm, Nat.mul_one])
      (fun j u hj => by rw [show (⟨b, off, none⟩ : Addr).add j = ⟨b, off + j, none⟩ from by unfold Addr.add; split <;> simp_all]; exact hc j u hj) hu h63 hbytes hbase
    unfold Oper.wp execOp
    simp only [ho, resolve, invoke, builtin, Sem.run_bind, Sem.run_pure, Result.andThen_ok, List.map_toArray, List.map_cons, List.map_nil, hs, hx, hrun]
    exact h v' w' h2 h3 h4
theorem own_grown2 {w w' : World} {base n : Nat} {row : Option Nat} {e : TypeId} {v : Value} {xs : List Value} (h : w.ownsRow base e 1 v n xs) (hg : w.grownBy w' row) (hne : ∀ k, v.ownBlock = some k → row ≠ some k) : w'.ownsRow base e 1 v n xs := h.kept hg (by
  cases hb : v.ownBlock with
  | none => exact Or.inl rfl
  | some k => exact Or.inr (fun e => hne k hb e.symm))
/-- What two appends turn. -/
theorem insert_grown {w4 w5 w6 : World} {b : Nat} {o : Obj} {row5 row6 : Option Nat} (hg5 : (w4.alloc o).drew.grownBy w5 row5) (h5 : ∀ k, row5 = some k → k = b) (hg6 : w5.grownBy w6 row6) (h6 : ∀ k, row6 = some k → k = b ∨ w4.heap.size ≤ k) : w4.grownBy w6 (some b) := by
  have ha : w4.grownBy (w4.alloc o).drew none := only_drew (World.grownBy_alloc w4 o none)
  have hsz : w4.heap.size ≤ w5.heap.size := Nat.le_trans ha.size hg5.size
  refine ⟨hg6.os.trans (hg5.os.trans ha.os), hg6.tape.trans (hg5.tape.trans ha.tape), hg6.output.trans (hg5.output.trans ha.output), Nat.le_trans hsz hg6.size, fun i hi hne => ?_⟩
  have hib : i ≠ b := fun e => hne (by rw [e])
  rw [hg6.block i (Nat.lt_of_lt_of_le hi hsz) (fun e => by rcases h6 i e.symm with h | h <;> omega), hg5.block i (Nat.lt_of_lt_of_le hi ha.size) (fun e => hib (h5 i e.symm))]
  exact ha.block i hi (by simp)
/-- A side is put into a polygon. -/
theorem Polys.insert {w : World} {N g G cg b hcap p n' b6 c6 : Nat} {w4 w6 : World} {sv : Value} {l hr hr' : List Int} {hs : List Hd} (R : Polys w N g w4 sv l (.slice (some ⟨G, 0, none⟩) hs.length cg) hs) (hN : w.heap.size = N) (hgN : g < N)
    (hp : hs[p]? = some ⟨some ⟨b, 0, none⟩, hcap, hr⟩) (hG : w4.grownBy w6 (some b)) (ho : w6.ownsRow N 3 1 (.slice (some ⟨b6, 0, none⟩) n' c6) n' (intCells hr')) (hn : hr'.length = n') (ht : Tiny hr') (hb6 : b6 = b ∨ w4.heap.size ≤ b6) :
    Polys w N g (w6.setCell ⟨G, p, none⟩ (.slice (some ⟨b6, 0, none⟩) n' c6)) sv l (.slice (some ⟨G, 0, none⟩) hs.length cg) (hs.set p ⟨some ⟨b6, 0, none⟩, c6, hr'⟩) := by
  obtain ⟨hpl, hpe⟩ := List.getElem?_eq_some_iff.1 hp
  have hin := (R.inner _ (get_mem hp)).1
  have hbN := (hin.lt b rfl).1
  have hbs := (hin.lt b rfl).2
  have hGN := (R.outer.lt G rfl).1
  have haw := List.pairwise_cons.1 R.away
  have hsb : ∀ k, sv.ownBlock = some k → k ≠ b := fun k hk e => haw.1 _ (List.mem_map.2 ⟨_, get_mem hp, rfl⟩) k hk (by rw [e]; rfl)
  have ho6 : w6.ownsRow N 46 1 (.slice (some ⟨G, 0, none⟩) hs.length cg) hs.length (hdCells hs) := kept_type R.outer hin (by decide) hG
  have hst := ho6.stored p (.slice (some ⟨b6, 0, none⟩) n' c6)
  have far : ∀ {n : Nat} {v : Value} {xs : List Value}, w6.ownsRow N 3 1 v n xs → (w6.setCell ⟨G, p, none⟩ (.slice (some ⟨b6, 0, none⟩) n' c6)).ownsRow N 3 1 v n xs := fun {n v xs} h => kept_type h ho6 (by decide) hst.2
  have old : ∀ {n : Nat} {v : Value} {xs : List Value}, w4.ownsRow N 3 1 v n xs → (∀ k, v.ownBlock = some k → k ≠ b) → w6.ownsRow N 3 1 v n xs := fun {n v xs} h hne => h.kept hG (by
    cases hb : v.ownBlock with
    | none => exact Or.inl rfl
    | some k => exact Or.inr (fun e => hne k hb (Option.some.inj e)))
  have hpair := List.pairwise_iff_getElem.1 haw.2
  have hothers : ∀ j (hj : j < hs.length), j ≠ p → ∀ k, hs[j].val.ownBlock = some k → k ≠ b := fun j hj hjp k hk e => by
    have hpv : (hs[p]).val.ownBlock = some b := by rw [hpe]; rfl
    rcases Nat.lt_or_ge j p with h1 | h1
    · have := hpair j p (by simpa using hj) (by simpa using hpl) h1
      simp only [List.getElem_map] at this
      exact this k hk (by rw [hpv, e])
    · have := hpair p j (by simpa using hpl) (by simpa using hj) (by omega)
      simp only [List.getElem_map] at this
      exact this b hpv (by rw [hk, e])
  have hnewv : (⟨some ⟨b6, 0, none⟩, c6, hr'⟩ : Hd).val = .slice (some ⟨b6, 0, none⟩) n' c6 := by unfold Hd.val; rw [hn]
  refine ⟨far (old R.sides hsb), R.tiny, ?_, ?_, ?_, fun h hh => ?_, ?_⟩
  · exact ((R.cur.above hG (fun k hk => by have := Option.some.inj hk; omega))).above hst.2 (fun k hk => by have := Option.some.inj hk; omega)
  · exact grown_all (grown_all R.gro hG (fun k hk => by have := Option.some.inj hk; rw [hN]; omega)) hst.2 (fun k hk => by have := Option.some.inj hk; rw [hN]; omega)
  · rw [List.length_set]
    have := hst.1
    rw [← hnewv, show (hdCells hs).set p (⟨some ⟨b6, 0, none⟩, c6, hr'⟩ : Hd).val = hdCells (hs.set p ⟨some ⟨b6, 0, none⟩, c6, hr'⟩) from by simp [hdCells, List.map_set], hnewv] at this
    exact this
  · obtain ⟨j, hj, rfl⟩ := List.mem_iff_getElem.1 hh
    have hj' : j < hs.length := by simpa using hj
    rw [List.getElem_set]
    split
    · rw [hnewv]; rw [show (⟨some ⟨b6, 0, none⟩, c6, hr'⟩ : Hd).l.length = n' from hn]; exact ⟨far ho, ht, _, rfl⟩
    · rename_i hjp
      exact ⟨far (old (R.inner _ (List.getElem_mem hj')).1 (hothers j hj' (fun e => hjp e.symm))), (R.inner _ (List.getElem_mem hj')).2⟩
  · have hlt : ∀ j (hj : j < hs.length) k, hs[j].val.ownBlock = some k → k < w4.heap.size := fun j hj k hk => ((R.inner _ (List.getElem_mem hj)).1.lt k hk).2
    have hnb : (⟨some ⟨b6, 0, none⟩, c6, hr'⟩ : Hd).val.ownBlock = some b6 := rfl
    rw [List.pairwise_cons]
    refine ⟨fun u hu k hk hk2 => ?_, ?_⟩
    · obtain ⟨h, hh, rfl⟩ := List.mem_map.1 hu
      obtain ⟨j, hj, rfl⟩ := List.mem_iff_getElem.1 hh
      have hj' : j < hs.length := by simpa using hj
      rw [List.getElem_set] at hk2
      split at hk2
      · rw [hnb] at hk2
        have := Option.some.inj hk2
        have h1 := hsb k hk
        have h2 := (R.sides.lt k hk).2
        omega
      · exact haw.1 _ (List.mem_map.2 ⟨_, List.getElem_mem hj', rfl⟩) k hk hk2
    · rw [List.pairwise_iff_getElem]
      intro x y hx hy hxy
      have hx' : x < hs.length := by simpa using hx
      have hy' : y < hs.length := by simpa using hy
      rw [List.getElem_map, List.getElem_map, List.getElem_set, List.getElem_set]
      intro k hk hk2
      split at hk
      · rename_i e1
        split at hk2
        · omega
        · rename_i e2
          rw [hnb] at hk
          have := Option.some.inj hk
          have h1 := hothers y hy' (fun e => e2 e.symm) k hk2
          have h2 := hlt y hy' k hk2
          omega
      · rename_i e1
        split at hk2
        · rw [hnb] at hk2
          have := Option.some.inj hk2
          have h1 := hothers x hx' (fun e => e1 e.symm) k hk
          have h2 := hlt x hx' k hk
          omega
        · have := hpair x y (by simpa using hx') (by simpa using hy') hxy
          simp only [List.getElem_map] at this
          exact this k hk hk2
end Go.Proofs.YtodgongemoabiaaDoor
