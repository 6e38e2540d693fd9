/-
  Small facts on worlds and on a row's last step that the proofs of this seat share. What the laws of this seat share at their last step: the world in which the listed variables lie, and that an argument reads as it did. A slice whose cells are known, nil included. Rows of integers: their cells; rows that can be written. The walks of the laws' helpers over slices of integers. Rows of integers of the call's own: what a call gives, what append makes. append of a row to a row of the call's own. Rows of rows of integers: their cells, the blocks in which they lie, what is written into some blocks alone. Rows of rows that a call makes by appends, or holds in one literal; what a call that hands rows and a bool back gives. Words, as lists of integers: what the document's chapter on words says of them. The walks of the program's and the model's IsWord. The walks of the program's and the model's ReduceWord. The walks of the model's ReduceWord. append of a row to a row of the call's own, as a step of a region that draws. The library's Grow (of nil), Concat and Equal over slices of integers. The walks of the program's and the model's TurnWord. What a loop's body keeps of an iterator's box. The walks of the program's InverseWord (a range over a function) and of the model's. The walks of the program's and the model's LetterSums. Gluings, as lists of words: what the document's chapter on gluings says of them. The walks that count how often letters occur: the model's l3Uses, the program's countLetters. Words without inverse neighbours are a group; two of these groups, sewn along one word, act on rows of cosets (an amalgam): pure. Words of the groups of surfaces: relators, steps of Dehn, what is left, sums of letters: pure. The walk of the program's countLetters: an array, by value. The walks of the program's and the model's IsGluing. Surfaces, as three numbers; the walks of the laws' helpers over them. Surfaces: the walks of the program's IsSurface, EulerNumber and sums. Sums of surfaces: what the document says, and the walks of the program's and the model's SumSurface. Standard gluings: what the document says, and the walks of the program's and the model's StandardGluing.
-/
import Derived.Test.YtfaagbmaekoogaaRows
import Derived.WalkKit
import Derived.WalkSpells
import Derived.WalkLawsBesides
import Derived.ProofKit
import Derived.Below
import Derived.ChangeSame
import Derived.Sort.Grow
import Derived.Lib.Hide
import Derived.Lib.LaidTab
import Derived.Carry
import Derived.Laws.OwnMore
import Derived.Deep.Draws
import Derived.Laws.Rows
import Derived.Laws.MakeOwn
import Derived.Maps.AppendAt
import Derived.Deep.QuietTactic
import Derived.BigQuiet
import Derived.Laws.AppendOwn
import Derived.Deep.Upon
import Derived.Deep.AppendSrc
import Derived.Lib.SlFresh
import Derived.Deep.RegionLaw
import Derived.Lib.AppendZeros
import Derived.StillTailTactics
import Derived.RangeFuncBox
import Derived.RangeFuncLeaves
import Derived.RangeFuncNested
import Derived.Shelf.Abstract
import Derived.OwnWalkIn
import Derived.TacticsInMore
import Derived.LoopNIn
import Derived.LoopIn
import Derived.Deep.WholeRow
import Derived.Deep.Cut
namespace Go.Proofs.Ytfaagbmaekoogaa
open Go.RowKit Go.WideShapes Go.ChangeShapes Go.Sort

theorem below_drewN {B : Nat} {a w : World} (h : Below B a w) (n : Nat) : Below B a (w.drewN n) := ⟨h.os, h.tape, h.output, h.size, h.block⟩
theorem below_grow {B : Nat} {a w : World} (h : Below B a w) (hB : B ≤ w.heap.size) (os : Array Obj) : Below B a (grow w os) :=
  ⟨h.os, h.tape, h.output, Nat.le_trans h.size (by simp [grow]), fun k hk => by
    rw [← h.block k hk]
    show (w.heap ++ os)[k]? = w.heap[k]?
    rw [Array.getElem?_append_left (by omega)]⟩
theorem var_below {P : Program} {B g : Nat} {W W' : World} {n : String} {cs : Array Value} (h : Below B W W') (hg : P.globalNamed n = some g) (hgB : g < B) (hv : W.var? P n = some cs) : W'.var? P n = some cs := by
  unfold World.var? at hv ⊢
  simp only [hg, Option.bind_eq_bind, Option.bind_some] at hv ⊢
  rw [h.block g hgB]
  exact hv
section
variable {H : Type} {enc : TypeId × Value → H} {P : Program}
theorem post_of_below {f : Func} {s : ChangeSpec} {apart fresh handsOn again : Bool} {W W' : World} {args : Array Value} {v : Value} {ds gs : List (DataW H)} {before pa pv : List MemPlace}
    (hW : DataW.Whole enc P f.params.toList s.vars apart W args.toList ds gs before)
    (hres : ∀ (b : Nat) (sp : Nat → Bool) (hd : Bool), DataW.TrodAll enc P W' b sp hd f.resultTypes.toList (v.resultList f.resultTypes.size) (s.fn H (ds ++ gs)).results [])
    (hargs : ∀ sp : Nat → Bool, (∀ p ∈ before, sp p.block = true) → DataW.TrodAll enc P W' 0 sp true f.params.toList args.toList (s.fn H (ds ++ gs)).args pa)
    (hvars : ∀ sp : Nat → Bool, (∀ p ∈ before, sp p.block = true) → DataW.TrodVars enc P W' sp s.vars (s.fn H (ds ++ gs)).vars pv)
    (hps : before = pa ++ pv) (hb : Below W.heap.size W W')
    (hok : ∀ (j : Nat) (t : TypeId) (r : Value), f.resultTypes[j]? = some t → (v.resultList f.resultTypes.size)[j]? = some r → Value.okWide P W' .any 0 t r) :
    s.post enc P f apart fresh handsOn again W args v W' := by
  have hlt : ∀ p ∈ before, p.block < W.heap.size := fun p hp => hW.lt p hp
  have hold : ∀ p ∈ before, (fun b => decide (b < W.heap.size)) p.block = true := fun p hp => by simpa using hlt p hp
  refine ⟨ds, gs, before, [], pa, pv, hW, hres _ _ _, hargs _ hold, hvars _ hold, World.keptBut_mono (fun p hp => ⟨hp, ?_⟩) (hb.frame (· ∈ before)), fun _ => ?_⟩
  · rw [hps, List.mem_append] at hp
    exact Or.inr hp
  · obtain ⟨_, _, _, _, _, hz, hn⟩ := hW
    refine ⟨hok, _, _, ([] ++ pa) ++ pv, ⟨[] ++ pa, pv, trodAll_append (hargs _ (fun _ _ => rfl)) (hres _ _ _), hvars _ (fun _ _ => rfl), rfl, ?_, ?_⟩, ?_⟩
    · intro b off hp
      have hin : MemPlace.cell b off ∈ before := by rw [hps]; simpa using hp
      rw [hb.frozen (hlt _ hin)]
      exact hz b off hin
    · intro ha
      have := hn ha
      rw [hps] at this
      simpa using this
    · intro p hp _
      rw [hps]
      simpa using hp
end
end Go.Proofs.Ytfaagbmaekoogaa
namespace Go.Proofs.Ytfaagbmaekoogaa
open Go.RowKit Go.WideShapes Go.ChangeShapes

theorem trod_keeps {H : Type} {enc : TypeId × Value → H} {P : Program} {t : TypeId} (hl : laidOutB P = true) (hr : P.readableRec t = true) (hrow : decide (t < P.types.size) = true) {W W' : World} {v : Value} {d : DataW H} {ps : List MemPlace}
    (h : DataW.Trod enc P W 0 (fun _ => true) true t v d ps) (hb : Below W.heap.size W W') (hlt : ∀ x ∈ ps, x.block < W.heap.size) {sp : Nat → Bool} (hs : ∀ x ∈ ps, sp x.block = true) :
    DataW.Trod enc P W' 0 sp true t v d ps :=
  WideElems.Trod_stays hl hr (of_decide_eq_true hrow) h (fun x hx => hb.same (hlt x hx)) hs

namespace Low
theorem own : ownKnob Try.prog.godebug = none := by kernel_rfl
end Low
end Go.Proofs.Ytfaagbmaekoogaa
namespace Go.Proofs.Ytfaagbmaekoogaa
open Go.RowKit

/-- The address a leads to the cells cs (or there are none). -/
def RowAt (w : World) (a : Option Addr) (cs : List Value) : Prop := cs = [] ∨ ∃ b o, a = some ⟨b, o, none⟩ ∧ b < w.heap.size ∧ ∀ i v, cs[i]? = some v → w.cell? ⟨b, o + i, none⟩ = some v
theorem RowAt.below {w w' : World} {a : Option Addr} {cs : List Value} (h : RowAt w a cs) (hb : Below w.heap.size w w') : RowAt w' a cs := by
  rcases h with h | ⟨b, o, rfl, hlt, hc⟩
  · exact Or.inl h
  · exact Or.inr ⟨b, o, rfl, Nat.lt_of_lt_of_le hlt hb.size, fun i v hv => by rw [hb.cell (p := ⟨b, o + i, none⟩) hlt]; exact hc i v hv⟩
theorem RowAt.keeps {B : Nat} {w w' W : World} {a : Option Addr} {cs : List Value} (h : RowAt W a cs) (hB : W.heap.size ≤ B) (h1 : Below W.heap.size W w) (hb : Below B w w') : RowAt w' a cs :=
  h.below (h1.trans (hb.mono hB))
theorem RowAt.at {w : World} {a : Option Addr} {cs : List Value} (h : RowAt w a cs) {i : Nat} (hi : i < cs.length) : ∃ b o, a = some ⟨b, o, none⟩ ∧ b < w.heap.size ∧ ∀ j v, cs[j]? = some v → w.cell? ⟨b, o + j, none⟩ = some v := by
  rcases h with rfl | h
  · simp at hi
  · exact h

/-- A block that is known whole. -/
def Blk (w : World) (g : Nat) (t : TypeId) (cs : Array Value) : Prop := w.heap[g]? = some (.cells cs t (0, 0))
section
variable {w w' : World} {g : Nat} {t : TypeId} {cs : Array Value}
theorem Blk.lt (h : Blk w g t cs) : g < w.heap.size := by
  rcases Nat.lt_or_ge g w.heap.size with hlt | hge
  · exact hlt
  · unfold Blk at h; rw [Array.getElem?_eq_none hge] at h; cases h
theorem Blk.cell (h : Blk w g t cs) (i : Nat) : w.cell? ⟨g, i, none⟩ = cs[i]? := cell_of_row w g i cs t (0, 0) h
theorem Blk.frozen (h : Blk w g t cs) (i : Nat) : w.frozen? ⟨g, i, none⟩ = false := by
  unfold Blk at h
  simp [World.frozen?, h]
theorem Blk.new (w : World) (t : TypeId) (cs : Array Value) : Blk (w.alloc (.cells cs t)) w.heap.size t cs := heap_alloc_new w _
theorem Blk.drew (h : Blk w g t cs) : Blk w.drew g t cs := h
theorem Blk.drewN (h : Blk w g t cs) (n : Nat) : Blk (w.drewN n) g t cs := h
theorem Blk.alloc (h : Blk w g t cs) (o : Obj) : Blk (w.alloc o) g t cs := (Below.heap_alloc w o g h.lt).trans h
theorem Blk.put (h : Blk w g t cs) (i : Nat) (u : Value) : Blk (w.setCell ⟨g, i, none⟩ u) g t (cs.setIfInBounds i u) := by
  unfold Blk at h ⊢
  simp [World.setCell, Array.getElem?_modify, h]
theorem Blk.far (h : Blk w g t cs) {p : Addr} (hp : g ≠ p.block) (u : Value) : Blk (w.setCell p u) g t cs := (Below.heap_setCell w p u g hp).trans h
theorem Blk.below {B : Nat} (h : Blk w g t cs) (hb : Below B w w') (hg : g < B) : Blk w' g t cs := (hb.block g hg).trans h
theorem Blk.grown {row : Option Nat} (h : Blk w g t cs) (hb : w.grownBy w' row) (hg : some g ≠ row) : Blk w' g t cs := (hb.block g h.lt hg).trans h
theorem Blk.row (h : Blk w g t cs) : RowAt w (some ⟨g, 0, none⟩) cs.toList := Or.inr ⟨g, 0, rfl, h.lt, fun i v hv => by
  rw [Nat.zero_add, h.cell i]; simpa using hv⟩
end
theorem only_setCell {a w : World} {g : Nat} (h : a.grownBy w (some g)) {p : Addr} (hp : p.block = g ∨ a.heap.size ≤ p.block) (u : Value) : a.grownBy (w.setCell p u) (some g) :=
  ⟨h.os, h.tape, h.output, by simpa [World.setCell] using h.size, fun i hi hne => (Below.heap_setCell w p u i (by
    rintro rfl
    rcases hp with hp | hp
    · exact hne (by rw [hp])
    · omega)).trans (h.block i hi hne)⟩
theorem only_of_below {a w : World} (h : Below a.heap.size a w) (row : Option Nat) : a.grownBy w row := ⟨h.os, h.tape, h.output, h.size, fun i hi _ => h.block i hi⟩
theorem below_of_only {a w w' : World} {g : Nat} (h : Below a.heap.size a w) (hg : w.grownBy w' (some g)) (hlt : a.heap.size ≤ g) : Below a.heap.size a w' :=
  h.grown hg h.size (fun k hk => by injection hk with hk; omega)
theorem run_make_rowN {P : Program} (t e : TypeId) (i : TypeInfo) (z : Value) (ht : P.underlying t = some (.slice e)) (hi : P.info? e = some i) (hz : i.zero = some z)
    (kl kc : IntKind) (n c : Nat) (hnc : n ≤ c) (hbytes : i.bytes * c ≤ 281474976710656) (h63 : c ≤ 9223372036854775807) (w : World) :
    (Instr.makeSlice t (.int kl (n : Int)) (.int kc (c : Int))).run P w = .ok (.slice (some ⟨w.heap.size, 0, none⟩) n c) (w.alloc (.cells (madeCells z.cells (c * i.size)) e)) := by
  have hb : (i.bytes : Int) * (c : Int) ≤ 281474976710656 := by
    have h : ((i.bytes * c : Nat) : Int) ≤ 281474976710656 := by omega
    rwa [Int.natCast_mul] at h
  have hr := run_make (P := P) w t e i z ht hi hz kl kc n c (by omega) (by omega) hb (by omega)
  simp only [Int.toNat_natCast] at hr
  exact hr
/-- append of one element of one cell, to a row of the call's own. -/
theorem append_one {P : Program} {ops : Array Oper} {rest : List Oper} {o : Oper} {a : Act} {Q : Exit → Act → World → Prop} {W : World} {u : Value} {te : TypeId} (hgd : o.guard = none) (s x : Operand) (t : TypeId)
    (ho : o.op = .call { callee := .builtin .append, args := #[s, x], argTypes := #[t, t] })
    (base : Nat) (e : TypeId) (i : TypeInfo) (z : Value) (bytes : Nat) (ht : P.underlying t = some (.slice e)) (hi : P.info? e = some i) (hz : i.zero = some z)
    (hsize : i.size = 1) (hby : i.bytes = bytes) (hzs : z.cells.size = 1)
    (v : Value) (n : Nat) (xs : List Value) (hs : a.eval s = v) (hown : W.ownsRow base e 1 v n xs)
    (hu : u.oneCell' = true) (c : Nat) (hx : a.eval x = .slice (some ⟨W.heap.size, 0, none⟩) 1 c)
    (h63 : n + 1 ≤ maxLen) (hbytes : (n + 1) * bytes ≤ 140737488355328) (hbase : base ≤ W.heap.size)
    (h : ∀ v' w', w'.ownsRow base e 1 v' (n + 1) (xs ++ [u]) → (W.alloc (.cells #[u] te)).grownBy w' v.ownBlock → v' ≠ .slice none 0 0 → wpList P ops Q rest (a.put o.dst v') w') :
    wpList P ops Q (o :: rest) a (W.alloc (.cells #[u] te)) :=
  wpList_append_own _ hgd s x t ho base e i z 1 bytes ht hi hz hsize hby hzs (by decide) v n xs hs (hown.alloc _) ⟨W.heap.size, 0, none⟩ 1 c [u] hx rfl
    (fun j y hj => by
      cases j with
      | zero =>
        simp only [List.getElem?_cons_zero, Option.some.injEq] at hj
        subst hj
        show (W.alloc (.cells #[u] te)).cell? ⟨W.heap.size, 0, none⟩ = some u
        rw [World.cell?_alloc_at _ _ _ _ rfl]; rfl
      | succ j => simp at hj)
    (fun y hy => by simp only [List.mem_singleton] at hy; rw [hy]; exact hu) h63 hbytes (Nat.le_trans hbase (by simp)) (fun v' w' h1 h2 h3 => h v' w' h1 h2 (fun e => by have := (h3.1 e).2; omega))
/-- A row of the call's own, as a slice whose cells are known. -/
theorem own_row {w : World} {base : Nat} {e : TypeId} {v : Value} {n : Nat} {cs : List Value} (h : w.ownsRow base e 1 v n cs) (hn : cs.length = n) : ∃ a c, v = .slice a n c ∧ RowAt w a cs := by
  have hn := hn
  rcases h.2 with ⟨rfl, rfl⟩ | ⟨g, cap, cur, rfl, hb, hh, hle, hm, hc, ht⟩
  · exact ⟨none, 0, rfl, Or.inl (List.eq_nil_of_length_eq_zero hn)⟩
  · refine ⟨_, _, rfl, Or.inr ⟨g, 0, rfl, Blk.lt hh, fun i v hv => ?_⟩⟩
    rw [Nat.zero_add, cell_of_row w g i cur _ _ hh]
    rw [← ht, List.getElem?_take] at hv
    split at hv
    · simpa using hv
    · cases hv
theorem row_only {w0 w w' : World} {a : Option Addr} {cs : List Value} {g : Nat} (h : RowAt w0 a cs) (hg : w0.heap.size ≤ g) (hb : Below w0.heap.size w0 w) (ho : w.grownBy w' (some g)) : RowAt w' a cs :=
  h.below (below_of_only hb ho hg)
theorem made_one (z : Value) (n : Nat) : madeCells #[z] n = (List.replicate n z).toArray := by
  unfold madeCells
  apply Array.ext
  · simp
  · intro i h1 h2
    simp [Nat.mod_one]
/-- What a loop has filled: the first i of the cells cs, zeros behind. -/
def filled (cs : List Value) (z : Value) (i : Nat) : Array Value := (cs.take i ++ List.replicate (cs.length - i) z).toArray
theorem filled_zero (cs : List Value) (z : Value) : filled cs z 0 = (List.replicate cs.length z).toArray := by simp [filled]
theorem filled_all (cs : List Value) (z : Value) : filled cs z cs.length = cs.toArray := by simp [filled]
theorem filled_at {cs : List Value} {z : Value} {i : Nat} (h : i < cs.length) : (filled cs z i)[i]? = some z := by
  have e : cs.length - i = (cs.length - (i + 1)) + 1 := by omega
  unfold filled
  rw [e, List.replicate_succ]
  simp [List.getElem?_append, Nat.min_eq_left (Nat.le_of_lt h)]
theorem filled_step {cs : List Value} {z v : Value} {i : Nat} (h : cs[i]? = some v) : (filled cs z i).setIfInBounds i v = filled cs z (i + 1) := by
  obtain ⟨hi, rfl⟩ := List.getElem?_eq_some_iff.1 h
  have e : cs.length - i = (cs.length - (i + 1)) + 1 := by omega
  unfold filled
  rw [e, List.replicate_succ]
  have hl : (cs.take i).length = i := by simp; omega
  simp only [List.setIfInBounds_toArray, List.set_append, hl, Nat.lt_irrefl, if_false, Nat.sub_self, List.set_cons_zero]
  rw [List.take_succ_eq_append_getElem hi, List.append_assoc]
  rfl
end Go.Proofs.Ytfaagbmaekoogaa
namespace Go.Proofs.Ytfaagbmaekoogaa
open Go.RowKit

theorem wrap_small {x : Int} (h0 : -9223372036854775808 ≤ x) (h1 : x ≤ 9223372036854775807) : IntKind.i64.wrap x = x := by
  rw [IntKind.wrap_i64]; omega
def intCells (l : List Int) : List Value := l.map (Value.int .i64)
theorem intCells_len (l : List Int) : (intCells l).length = l.length := by simp [intCells]
theorem intCells_get {l : List Int} {i : Nat} (hi : i < l.length) : (intCells l)[i]? = some (.int .i64 l[i]) := by simp [intCells, hi]
theorem intCells_at {w : World} {a : Option Addr} {l : List Int} (h : RowAt w a (intCells l)) {i : Nat} (hi : i < l.length) : ∃ b o, a = some ⟨b, o, none⟩ ∧ b < w.heap.size ∧ w.cell? ⟨b, o + i, none⟩ = some (.int .i64 l[i]) := by
  obtain ⟨b, o, rfl, hb, hc⟩ := h.at (i := i) (by simpa [intCells] using hi)
  exact ⟨b, o, rfl, hb, hc i _ (intCells_get hi)⟩
/-- The machine's integers. -/
def I64s (l : List Int) : Prop := ∀ x ∈ l, -9223372036854775808 ≤ x ∧ x ≤ 9223372036854775807
/-- A row whose block is known, above base: it can be written. -/
def Fresh (w : World) (base : Nat) (t : TypeId) (a : Option Addr) (cs : List Value) : Prop :=
  cs = [] ∨ ∃ g o all, a = some ⟨g, o, none⟩ ∧ base ≤ g ∧ Blk w g t all ∧ ∀ i v, cs[i]? = some v → all[o + i]? = some v
theorem Fresh.row {w : World} {base : Nat} {t : TypeId} {a : Option Addr} {cs : List Value} (h : Fresh w base t a cs) : RowAt w a cs := by
  rcases h with h | ⟨g, o, all, rfl, _, hk, hc⟩
  · exact Or.inl h
  · exact Or.inr ⟨g, o, rfl, hk.lt, fun i v hv => by rw [hk.cell]; exact hc i v hv⟩
theorem Fresh.keeps {w w' : World} {base : Nat} {t : TypeId} {a : Option Addr} {cs : List Value} (h : Fresh w base t a cs) {row : Option Nat} (hg : w.grownBy w' row) (hr : ∀ g, row = some g → g < base) : Fresh w' base t a cs := by
  rcases h with h | ⟨g, o, all, rfl, hb, hk, hc⟩
  · exact Or.inl h
  · exact Or.inr ⟨g, o, all, rfl, hb, hk.grown hg (fun e => by have := hr g e.symm; omega), hc⟩
theorem Fresh.below {w w' : World} {base : Nat} {t : TypeId} {a : Option Addr} {cs : List Value} (h : Fresh w base t a cs) (hg : Below w.heap.size w w') : Fresh w' base t a cs :=
  h.keeps (only_of_below hg none) (fun _ e => by cases e)
theorem Fresh.mono {w : World} {base base' : Nat} {t : TypeId} {a : Option Addr} {cs : List Value} (h : Fresh w base t a cs) (hb : base' ≤ base) : Fresh w base' t a cs := by
  rcases h with h | ⟨g, o, all, rfl, hg, hk, hc⟩
  · exact Or.inl h
  · exact Or.inr ⟨g, o, all, rfl, Nat.le_trans hb hg, hk, hc⟩
theorem Fresh.of_blk {w : World} {g base : Nat} {t : TypeId} {cs : List Value} (h : Blk w g t cs.toArray) (hb : base ≤ g) : Fresh w base t (some ⟨g, 0, none⟩) cs :=
  Or.inr ⟨g, 0, _, rfl, hb, h, fun i v hv => by rw [Nat.zero_add]; simpa using hv⟩
theorem Fresh.part {w : World} {base : Nat} {t : TypeId} {b o : Nat} {cs cs' : List Value} (h : Fresh w base t (some ⟨b, o, none⟩) cs) (j : Nat) (hs : ∀ i v, cs'[i]? = some v → cs[j + i]? = some v) : Fresh w base t (some ⟨b, o + j, none⟩) cs' := by
  rcases h with rfl | ⟨g, o, all, e, hb, hk, hc⟩
  · cases cs' with
    | nil => exact Or.inl rfl
    | cons x r => have := hs 0 x rfl; simp at this
  · cases e
    exact Or.inr ⟨_, _, all, rfl, hb, hk, fun i v hv => by rw [Nat.add_assoc]; exact hc _ v (hs i v hv)⟩
/-- A row of the call's own can be written. -/
theorem own_fresh {w : World} {base : Nat} {e : TypeId} {v : Value} {n : Nat} {cs : List Value} (h : w.ownsRow base e 1 v n cs) (hn : cs.length = n) : ∃ a c, v = .slice a n c ∧ n ≤ c ∧ Fresh w base e a cs := by
  rcases h.2 with ⟨rfl, rfl⟩ | ⟨g, cap, cur, rfl, hb, hh, hle, hm, hc, ht⟩
  · exact ⟨none, 0, rfl, Nat.le_refl _, Or.inl (List.eq_nil_of_length_eq_zero hn)⟩
  · refine ⟨_, _, rfl, by omega, Or.inr ⟨g, 0, cur, rfl, hb, hh, fun i v hv => ?_⟩⟩
    rw [Nat.zero_add]
    rw [← ht, List.getElem?_take] at hv
    split at hv
    · simpa using hv
    · cases hv
end Go.Proofs.Ytfaagbmaekoogaa
namespace Go.Proofs.Ytfaagbmaekoogaa
open Go.RowKit

theorem info_int : (Try.prog.info? 3).map (fun i => (i.zero, i.size, i.bytes)) = some (some (.int .i64 0), 1, 8) := by kernel_rfl

set_option maxRecDepth 10000 in
set_option maxHeartbeats 400000 in
theorem toIntS (a : Option Addr) (c : Nat) (l : List Int) (w : World) (ha : RowAt w a (intCells l)) (hl : l.length ≤ 1048576) :
    Calls Try.prog 72 #[.slice a l.length c] w fun e w' => e = .returned (.slice (some ⟨w.heap.size, 0, none⟩) l.length l.length) ∧ Blk w' w.heap.size 3 (intCells l).toArray ∧ Below w.heap.size w w' := by
  obtain ⟨i0, hi, hz0, hz1, hz2⟩ := info_parts info_int
  have hmk := fun W => run_make_rowN (P := Try.prog) 42 3 i0 _ Try.underlying42 hi hz0 .i64 .i64 l.length l.length (Nat.le_refl _) (by rw [hz2]; omega) (by omega) W
  have hn := intCells_len l
  have hmc : madeCells (Value.int .i64 0).cells (l.length * i0.size) = filled (intCells l) (.int .i64 0) 0 := by
    rw [hz1, Nat.mul_one, filled_zero, hn]; exact made_one _ _
  rw [hmc] at hmk
  generalize hN : w.heap.size = N
  have HN := Lib.hid hN
  have Hi := Lib.hid hi
  have Hc := Lib.hid hn
  clear hi hz0 hz1 hz2 hmc hn
  go_enter Try.func72, Try.ntmps72
  go_wp2
  go_loopw [4] (fun iv wr => ∃ i : Nat, i ≤ l.length ∧ iv = .int .i64 i ∧ Blk wr N 3 (filled (intCells l) (.int .i64 0) i) ∧ Below N w wr) (fun iv _ => l.length - (intOf iv).toNat)
  case atStart => exact ⟨0, by omega, rfl, by have h := Blk.new w 3 (filled (intCells l) (.int .i64 0) 0); rw [HN.out] at h; exact h, by have h := (Below.refl w.heap.size w).alloc (Nat.le_refl _) (.cells (filled (intCells l) (.int .i64 0) 0) 3); rw [HN.out] at h; exact h⟩
  case round =>
    obtain ⟨i, hi, rfl, hblk, hb⟩ := hrel
    have Hblk := Lib.hid hblk
    by_cases hlt : i < l.length
    · have ha' : RowAt wr a (intCells l) := ha.below (by rw [HN.out]; exact hb)
      obtain ⟨b, o, rfl, hbw, hcell⟩ := intCells_at ha' hlt
      have hdst : wr.cell? ⟨N, i, none⟩ = some (.int .i64 0) := by rw [hblk.cell i]; exact filled_at (by rw [Hc.out]; exact hlt)
      have hfz := hblk.frozen i
      have Hb := Lib.hid hb; clear hblk hb
      have Hs := Lib.hid (filled_step (z := .int .i64 0) (intCells_get hlt))
      go_wp2
      go_roundw
      case rel => exact ⟨i + 1, by omega, by go_num, by have h := Hblk.out.put i (.int .i64 l[i]); rw [Hs.out] at h; exact h, Hb.out.setCell (Nat.le_refl _) _⟩
      case measure => simp [intOf]; omega
    · obtain rfl : i = l.length := by omega
      go_wp2
      go_ret
      refine ⟨rfl, ?_, hb⟩
      have h := Hblk.out
      rw [← Hc.out, filled_all] at h
      exact h

set_option maxRecDepth 10000 in
set_option maxHeartbeats 400000 in
theorem eqIntS (a a' : Option Addr) (c c' : Nat) (l : List Int) (w : World) (ha : RowAt w a (intCells l)) (ha' : RowAt w a' (intCells l)) (hl : l.length ≤ 9223372036854775807) :
    Calls Try.prog 69 #[.slice a l.length c, .slice a' l.length c'] w fun e w' => e = .returned (.bool true) ∧ Below w.heap.size w w' := by
  go_enter Try.func69, Try.ntmps69
  go_wp2
  go_loopw [4, 5] (fun rv iv wr => rv = .bool false ∧ ∃ i : Nat, i ≤ l.length ∧ iv = .int .i64 i ∧ Below w.heap.size w wr) (fun _ iv _ => l.length - (intOf iv).toNat)
  case atStart => exact ⟨rfl, 0, by omega, rfl, Below.refl _ _⟩
  case round =>
    obtain ⟨rfl, i, hi, rfl, hb⟩ := hrel
    by_cases hlt : i < l.length
    · obtain ⟨b, o, rfl, hbw, hcell⟩ := intCells_at (ha.below hb) hlt
      obtain ⟨b', o', rfl, hbw', hcell'⟩ := intCells_at (ha'.below hb) hlt
      generalize l[i] = x at hcell hcell'
      have h0 : (0 : Int) ≤ (i : Int) := by omega
      have h1 : (i : Int) < (l.length : Int) := by omega
      go_wp2
      go_quiet (fail)
      all_goals go_wp2
      all_goals
        go_roundw
        case rel => exact ⟨rfl, i + 1, by omega, by go_num, below_drewN hb _⟩
        case measure => simp [intOf]; omega
    · obtain rfl : i = l.length := by omega
      go_wp2
      go_ret
      exact ⟨rfl, hb⟩

def marksI (k n : Nat) : List Int := (List.range n).map fun j => ((k + j : Nat) : Int)
theorem marksI_len (k n : Nat) : (marksI k n).length = n := by simp [marksI]
theorem marksI_at {k n i : Nat} (h : i < (marksI k n).length) : (marksI k n)[i] = ((k + i : Nat) : Int) := by simp [marksI]
theorem put_step {all all' : Array Value} {o i n : Nat} {f : Nat → Value} (hs : all'.size = all.size) (hn : o + n ≤ all.size) (hi : i < n) (h : ∀ j, j < i → all'[o + j]? = some (f j)) :
    (all'.setIfInBounds (o + i) (f i)).size = all.size ∧ ∀ j, j < i + 1 → (all'.setIfInBounds (o + i) (f i))[o + j]? = some (f j) := by
  refine ⟨by simpa using hs, fun j hj => ?_⟩
  rw [Array.getElem?_setIfInBounds]
  by_cases e : j = i
  · subst e; simp; omega
  · rw [if_neg (by omega)]; exact h j (by omega)

set_option maxRecDepth 10000 in
set_option maxHeartbeats 400000 in
theorem markIntS_at (g o c k n : Nat) (all : Array Value) (w : World) (hk : Blk w g 3 all) (hall : ∀ i, i < n → ∃ x, all[o + i]? = some (.int .i64 x)) (h1 : k ≤ 1000000000) (hn : n ≤ 1000000000) :
    Calls Try.prog 70 #[.slice (some ⟨g, o, none⟩) n c, .int .i64 k] w fun e w' => e = .returned (.int .i64 (k + n : Nat)) ∧ (∃ all', Blk w' g 3 all' ∧ all'.size = all.size ∧ ∀ j, j < n → all'[o + j]? = some (.int .i64 (k + j : Nat))) ∧ w.grownBy w' (some g) := by
  have Hk := Lib.hid hk
  have hglt := hk.lt
  clear hk
  go_enter Try.func70, Try.ntmps70
  go_wp2
  go_loopw [1, 5] (fun kv iv wr => ∃ i : Nat, i ≤ n ∧ iv = .int .i64 i ∧ kv = .int .i64 (k + i : Nat) ∧ (∃ all', Hid (Blk wr g 3 all' ∧ all'.size = all.size ∧ ∀ j, j < i → all'[o + j]? = some (.int .i64 (k + j : Nat)))) ∧ w.grownBy wr (some g)) (fun _ iv _ => n - (intOf iv).toNat)
  case atStart => exact ⟨0, by omega, rfl, rfl, ⟨all, Lib.hid ⟨Hk.out, rfl, fun j hj => by omega⟩⟩, World.grownBy.refl _ _⟩
  case round =>
    obtain ⟨i, hi, rfl, rfl, ⟨all', hblk⟩, hg⟩ := hrel
    by_cases hlt : i < n
    · have hsz : o + n ≤ all.size := by
        obtain ⟨x, hx⟩ := hall (n - 1) (by omega)
        have := (Array.getElem?_eq_some_iff.1 hx).1
        omega
      obtain ⟨v, hcell⟩ : ∃ v, wr.cell? ⟨g, o + i, none⟩ = some v := ⟨all'[o + i]'(by rw [hblk.out.2.1]; omega), by rw [hblk.out.1.cell]; simp⟩
      have hfz := hblk.out.1.frozen (o + i)
      go_wp2
      go_roundw
      case rel =>
        refine ⟨i + 1, by omega, by go_num, by simp; omega, ⟨_, Lib.hid ⟨hblk.out.1.put (o + i) (.int .i64 (k + i : Nat)), ?_⟩⟩, only_setCell hg (Or.inl rfl) _⟩
        exact put_step (f := fun j => .int .i64 (k + j : Nat)) hblk.out.2.1 hsz hlt hblk.out.2.2
      case measure => simp [intOf]; omega
    · obtain rfl : i = n := by omega
      go_wp2
      go_ret
      exact ⟨rfl, ⟨all', hblk.out⟩, hg⟩

set_option maxRecDepth 10000 in
set_option maxHeartbeats 400000 in
theorem markIntS_none (a : Option Addr) (c k : Nat) (w : World) (h1 : k ≤ 1000000000) :
    Calls Try.prog 70 #[.slice a 0 c, .int .i64 k] w fun e w' => e = .returned (.int .i64 k) ∧ w' = w := by
  go_enter Try.func70, Try.ntmps70
  go_wp2
  go_loopw [1, 5] (fun kv iv wr => kv = .int .i64 k ∧ iv = .int .i64 0 ∧ wr = w) (fun _ _ _ => 0)
  case atStart => exact ⟨rfl, rfl, rfl⟩
  case round =>
    obtain ⟨rfl, rfl, rfl⟩ := hrel
    go_wp2
    go_ret
    exact ⟨rfl, rfl⟩

theorem markIntS_blk (g c k : Nat) (l : List Int) (w : World) (hk : Blk w g 3 (intCells l).toArray) (h1 : k ≤ 1000000000) (hn : l.length ≤ 1000000000) :
    Calls Try.prog 70 #[.slice (some ⟨g, 0, none⟩) l.length c, .int .i64 k] w fun e w' => e = .returned (.int .i64 (k + l.length : Nat)) ∧ w.grownBy w' (some g) := by
  refine (markIntS_at g 0 c k l.length _ w hk (fun i hi => ⟨l[i], by rw [Nat.zero_add]; simpa using intCells_get hi⟩) h1 hn).mono ?_
  rintro e w' ⟨rfl, _, h⟩
  exact ⟨rfl, h⟩

/-- A row that can be written, marked. -/
theorem markIntS (a : Option Addr) (c k base : Nat) (l : List Int) (w : World) (hf : Fresh w base 3 a (intCells l)) (h1 : k ≤ 1000000000) (hn : l.length ≤ 1000000000) (hb : base ≤ w.heap.size) :
    Calls Try.prog 70 #[.slice a l.length c, .int .i64 k] w fun e w' => e = .returned (.int .i64 (k + l.length : Nat)) ∧ Fresh w' base 3 a (intCells (marksI k l.length)) ∧ Below base w w' ∧ ∃ row, w.grownBy w' row ∧ ∀ g, row = some g → base ≤ g ∧ ∃ o, a = some ⟨g, o, none⟩ := by
  rcases hf with he | ⟨g, o, all, rfl, hg, hk, hc⟩
  · obtain rfl : l = [] := by simpa [intCells] using he
    refine (markIntS_none a c k w h1).mono ?_
    rintro e w' ⟨rfl, rfl⟩
    exact ⟨rfl, Or.inl rfl, Below.refl _ _, none, World.grownBy.refl _ _, fun _ e => by cases e⟩
  · refine (markIntS_at g o c k l.length all w hk (fun i hi => ⟨l[i], hc i _ (intCells_get hi)⟩) h1 hn).mono ?_
    rintro e w' ⟨rfl, ⟨all', hk', _, hc'⟩, hgr⟩
    refine ⟨rfl, Or.inr ⟨g, o, all', rfl, hg, hk', fun i v hv => ?_⟩, ?_, some g, hgr, fun g' e => by cases e; exact ⟨hg, o, rfl⟩⟩
    · have hi : i < (marksI k l.length).length := by
        have := (List.getElem?_eq_some_iff.1 hv).1
        rwa [intCells_len] at this
      rw [intCells_get hi, marksI_at] at hv
      cases hv
      exact hc' i (by rwa [marksI_len] at hi)
    · exact ⟨hgr.os, hgr.tape, hgr.output, hgr.size, fun i hi => hgr.block i (by omega) (fun e => by cases e; omega)⟩

set_option maxRecDepth 10000 in
set_option maxHeartbeats 400000 in
theorem heldIntS (a : Option Addr) (n c k : Nat) (w : World) (ha : RowAt w a (intCells (marksI k n))) (h1 : k ≤ 1000000000) (hn : n ≤ 1000000000) :
    Calls Try.prog 71 #[.slice a n c, .int .i64 k] w fun e w' => e = .returned (.int .i64 (k + n : Nat)) ∧ Below w.heap.size w w' := by
  have Hl := Lib.hid (marksI_len k n)
  go_enter Try.func71, Try.ntmps71
  go_wp2
  go_loopw [1, 4, 5] (fun kv rv iv wr => rv = .int .i64 0 ∧ ∃ i : Nat, i ≤ n ∧ iv = .int .i64 i ∧ kv = .int .i64 (k + i : Nat) ∧ Below w.heap.size w wr) (fun _ _ iv _ => n - (intOf iv).toNat)
  case atStart => exact ⟨rfl, 0, by omega, rfl, rfl, Below.refl _ _⟩
  case round =>
    obtain ⟨rfl, i, hi, rfl, rfl, hb⟩ := hrel
    by_cases hlt : i < n
    · obtain ⟨b, o, rfl, hbw, hcell⟩ := intCells_at (ha.below hb) (i := i) (by rw [Hl.out]; exact hlt)
      rw [marksI_at] at hcell
      have h2 : (0 : Int) ≤ (i : Int) := by omega
      have h3 : (i : Int) < (n : Int) := by omega
      go_wp2
      go_roundw
      case rel => exact ⟨rfl, i + 1, by omega, by go_num, by simp; omega, hb⟩
      case measure => simp [intOf]; omega
    · obtain rfl : i = n := by omega
      go_wp2
      go_ret
      exact ⟨rfl, hb⟩

end Go.Proofs.Ytfaagbmaekoogaa
namespace Go.Proofs.Ytfaagbmaekoogaa
open Go.RowKit

/-- The call gives these integers, in memory of its own. -/
def Gives (w : World) (l : List Int) (e : Ending) (w' : World) : Prop := ∃ a c, e = .returned (.slice a l.length c) ∧ l.length ≤ c ∧ c ≤ maxLen ∧ Fresh w' w.heap.size 3 a (intCells l) ∧ Below w.heap.size w w'
theorem own_gives {w w' : World} {v : Value} {n : Nat} {l : List Int} (h : w'.ownsRow w.heap.size 3 1 v n (intCells l)) (hn : l.length = n) (hb : Below w.heap.size w w') : Gives w l (.returned v) w' := by
  rcases h.2 with ⟨rfl, rfl⟩ | ⟨g, cap, cur, rfl, hg, hh, hle, hm, hc, ht⟩
  · obtain rfl := List.eq_nil_of_length_eq_zero hn
    exact ⟨none, 0, rfl, Nat.le_refl _, Nat.zero_le _, Or.inl rfl, hb⟩
  · refine ⟨_, _, by rw [hn], by omega, hm, Or.inr ⟨g, 0, cur, rfl, hg, hh, fun i v hv => ?_⟩, hb⟩
    rw [Nat.zero_add]
    rw [← ht, List.getElem?_take] at hv
    split at hv
    · simpa using hv
    · cases hv
theorem Gives.none {w w' : World} (hb : Below w.heap.size w w') : Gives w [] (.returned (.slice none 0 0)) w' := ⟨_, _, rfl, Nat.le_refl _, Nat.zero_le _, Or.inl rfl, hb⟩
theorem Gives.later {w w0 w' : World} {l : List Int} {e : Ending} (h : Gives w0 l e w') (hb : Below w.heap.size w w0) : Gives w l e w' := by
  obtain ⟨a, c, rfl, h1, h2, h3, h4⟩ := h
  exact ⟨a, c, rfl, h1, h2, h3.mono hb.size, hb.trans (h4.mono hb.size)⟩
/-- The beginning of a row of the call's own. -/
theorem own_take {w : World} {base g cap n m : Nat} {e : TypeId} {xs : List Value} (h : w.ownsRow base e 1 (.slice (some ⟨g, 0, none⟩) n cap) n xs) (hm : m ≤ n) : w.ownsRow base e 1 (.slice (some ⟨g, 0, none⟩) m cap) m (xs.take m) := by
  obtain ⟨hx, ⟨h1, _⟩ | ⟨g', cap', cur, h1, hg, hh, hle, hmx, hc, ht⟩⟩ := h
  · cases h1
  · cases h1
    refine ⟨by simp at hx ⊢; omega, Or.inr ⟨g, cap, cur, rfl, hg, hh, by omega, hmx, hc, ?_⟩⟩
    rw [← ht, List.take_take]; congr 1; omega
theorem own_drewN {w : World} {base n : Nat} {e : TypeId} {v : Value} {xs : List Value} (h : w.ownsRow base e 1 v n xs) (q : Nat) : (w.drewN q).ownsRow base e 1 v n xs := h
theorem own_mono {w : World} {base base' n : Nat} {e : TypeId} {v : Value} {xs : List Value} (h : w.ownsRow base e 1 v n xs) (hb : base' ≤ base) : w.ownsRow base' e 1 v n xs := by
  obtain ⟨hx, h | ⟨g, cap, cur, h1, hg, h2⟩⟩ := h
  · exact ⟨hx, Or.inl h⟩
  · exact ⟨hx, Or.inr ⟨g, cap, cur, h1, Nat.le_trans hb hg, h2⟩⟩
theorem own_form {w : World} {base n : Nat} {e : TypeId} {v : Value} {xs : List Value} (h : w.ownsRow base e 1 v n xs) (hn : 0 < n) : ∃ g cap, v = .slice (some ⟨g, 0, none⟩) n cap ∧ n ≤ cap ∧ cap ≤ maxLen := by
  obtain ⟨_, ⟨_, h2⟩ | ⟨g, cap, cur, h1, hg, hh, hle, hmx, hc, ht⟩⟩ := h
  · omega
  · exact ⟨g, cap, h1, hle, hmx⟩
theorem own_len {w : World} {base n : Nat} {e : TypeId} {v : Value} {xs : List Value} (h : w.ownsRow base e 1 v n xs) : ∃ a cap, v = .slice a n cap := by
  obtain ⟨_, ⟨h1, rfl⟩ | ⟨g, cap, cur, h1, hg, hh, hle, hmx, hc, ht⟩⟩ := h
  · exact ⟨none, 0, h1⟩
  · exact ⟨_, cap, h1⟩
theorem own_cell {w : World} {base g cap n : Nat} {e : TypeId} {l : List Int} (h : w.ownsRow base e 1 (.slice (some ⟨g, 0, none⟩) n cap) n (intCells l)) {k : Nat} (hk : k < n) (hl : l.length = n) : w.cell? ⟨g, k, none⟩ = some (.int .i64 (l[k]'(by omega))) := by
  rw [h.cellAt k (by omega), intCells_get (by omega)]
theorem intCells_take (l : List Int) (k : Nat) : (intCells l).take k = intCells (l.take k) := by simp [intCells, List.map_take]
theorem intCells_snoc (l : List Int) (x : Int) : intCells l ++ [.int .i64 x] = intCells (l ++ [x]) := by simp [intCells]
theorem info_int_parts : ∃ i, Try.prog.info? 3 = some i ∧ i.zero = some (.int .i64 0) ∧ i.size = 1 ∧ i.bytes = 8 := by
  obtain ⟨i, h1, h2, h3, h4⟩ := info_parts info_int
  exact ⟨i, h1, h2, h3, h4⟩

theorem own_made {N : Nat} {w : World} (h : w.heap.size = N) : (w.alloc (.cells #[] 3)).ownsRow N 3 1 (.slice (some ⟨w.heap.size, 0, none⟩) 0 0) 0 (intCells []) :=
  World.ownsRow_made (base := N) (e := 3) (size := 1) w #[] 0 (by omega) (by unfold maxLen; omega) (by rfl)

/-- append to a row of the call's own: the row stays in its block, or moves into the block that is made. -/
theorem run_append_new {P : Program} (w : World) (base : Nat) (t ty e : TypeId) (i : TypeInfo) (z : Value) (size bytes : Nat) (ht : P.underlying t = some (.slice e)) (hi : P.info? e = some i) (hz : i.zero = some z)
    (hsize : i.size = size) (hby : i.bytes = bytes) (hzs : z.cells.size = size) (hsz : 0 < size)
    (v : Value) (n : Nat) (xs : List Value) (hown : w.ownsRow base e size v n xs)
    (ad : Addr) (m c : Nat) (news : List Value) (hl : news.length = m * size) (hnews : ∀ j u, news[j]? = some u → w.cell? (ad.add j) = some u) (h1 : ∀ u ∈ news, u.oneCell' = true)
    (h63 : n + m ≤ maxLen) (hbytes : (n + m) * bytes ≤ 140737488355328) (hbase : base ≤ w.heap.size) :
    ∃ v' w', (Builtin.append_ #[t, t] ty #[v, .slice (some ad) m c]).run P w = .ok v' w' ∧ w'.ownsRow base e size v' (n + m) (xs ++ news) ∧ w.grownBy w' v.ownBlock ∧ (v'.ownBlock = v.ownBlock ∨ v'.ownBlock = some w.heap.size) := by
  obtain ⟨v', w', hr, h2, h3, h4⟩ := run_append_own (P := P) w base t ty e i z size bytes ht hi hz hsize hby hzs hsz v n xs hown ad m c news hl hnews h1 h63 hbytes hbase
  refine ⟨v', w', hr, h2, h3, ?_⟩
  subst hsize
  subst hby
  have hsmall : n + m ≤ 9223372036854775807 := by simp only [maxLen] at h63; omega
  rcases hown.2 with ⟨rfl, rfl⟩ | ⟨g, cap, cur, rfl, hbg, hg, hnc, hcm, hcs, htake⟩
  · by_cases hm : m = 0
    · rw [h4.2 ⟨rfl, hm⟩]; exact Or.inl rfl
    · have hq := run_append_nil (P := P) w t ty e i z ht hi hz ad m c news hl hnews (by omega) (by omega) (by have hb := hbytes; simp only [Nat.zero_add] at hb; omega)
      rw [hq] at hr
      cases hr
      exact Or.inr rfl
  · by_cases hroom : n + m ≤ cap
    · have hfit : n * i.size + news.length ≤ cur.size := by rw [hl, hcs, ← Nat.add_mul]; exact Nat.mul_le_mul_right _ hroom
      have hq := run_append_room (P := P) w t ty e i ht hi g n cap cur hg ad m c news hl hnews h1 hroom hfit
      rw [hq] at hr
      cases hr
      exact Or.inl rfl
    · have holds : ∀ j u, xs[j]? = some u → w.cell? ((⟨g, 0, none⟩ : Addr).add j) = some u := hown.cells (g := g) rfl
      have hq := run_append_grow (P := P) w t ty e i z ht hi hz ⟨g, 0, none⟩ n cap xs hown.1 holds ad m c news hl hnews (by omega) (by omega) (growslice_fits (by omega) hbytes)
      rw [hq] at hr
      cases hr
      exact Or.inr rfl
theorem wpList_append_new {P : Program} {w : World} {ops : Array Oper} {rest : List Oper} {o : Oper} {a : Act} {Q : Exit → Act → World → Prop} (hgd : o.guard = none) (s x : Operand) (t : TypeId)
    (ho : o.op = .call { callee := .builtin .append, args := #[s, x], argTypes := #[t, t] })
    (base : Nat) (e : TypeId) (i : TypeInfo) (z : Value) (size bytes : Nat) (ht : P.underlying t = some (.slice e)) (hi : P.info? e = some i) (hz : i.zero = some z)
    (hsize : i.size = size) (hby : i.bytes = bytes) (hzs : z.cells.size = size) (hsz : 0 < size)
    (v : Value) (n : Nat) (xs : List Value) (hs : a.eval s = v) (hown : w.ownsRow base e size v n xs)
    (ad : Addr) (m c : Nat) (news : List Value) (hx : a.eval x = .slice (some ad) m c) (hl : news.length = m * size) (hnews : ∀ j u, news[j]? = some u → w.cell? (ad.add j) = some u) (h1 : ∀ u ∈ news, u.oneCell' = true)
    (h63 : n + m ≤ maxLen) (hbytes : (n + m) * bytes ≤ 140737488355328) (hbase : base ≤ w.heap.size)
    (h : ∀ v' w', w'.ownsRow base e size v' (n + m) (xs ++ news) → w.grownBy w' v.ownBlock → (v'.ownBlock = v.ownBlock ∨ v'.ownBlock = some w.heap.size) → wpList P ops Q rest (a.put o.dst v') w') : wpList P ops Q (o :: rest) a w := by
  obtain ⟨v', w', hr, h2, h3, h4⟩ := run_append_new (P := P) w base t o.type e i z size bytes ht hi hz hsize hby hzs hsz v n xs hown ad m c news hl hnews h1 h63 hbytes hbase
  refine wpList_plain hgd fun K hK => ?_
  unfold Oper.wp execOp
  simp only [ho, resolve, invoke, builtin, Sem.run_bind, Sem.run_pure, Result.andThen_ok, List.map_toArray, List.map_cons, List.map_nil, hs, hx, hr]
  exact hK _ _ (h v' w' h2 h3 h4)
/-- append of one element of one cell, and where the row lies then. -/
theorem append_one_new {P : Program} {ops : Array Oper} {rest : List Oper} {o : Oper} {a : Act} {Q : Exit → Act → World → Prop} {W : World} {u : Value} {te : TypeId} (hgd : o.guard = none) (s x : Operand) (t : TypeId)
    (ho : o.op = .call { callee := .builtin .append, args := #[s, x], argTypes := #[t, t] })
    (base : Nat) (e : TypeId) (i : TypeInfo) (z : Value) (bytes : Nat) (ht : P.underlying t = some (.slice e)) (hi : P.info? e = some i) (hz : i.zero = some z)
    (hsize : i.size = 1) (hby : i.bytes = bytes) (hzs : z.cells.size = 1)
    (v : Value) (n : Nat) (xs : List Value) (hs : a.eval s = v) (hown : W.ownsRow base e 1 v n xs)
    (hu : u.oneCell' = true) (c : Nat) (hx : a.eval x = .slice (some ⟨W.heap.size, 0, none⟩) 1 c)
    (h63 : n + 1 ≤ maxLen) (hbytes : (n + 1) * bytes ≤ 140737488355328) (hbase : base ≤ W.heap.size)
    (h : ∀ v' w', w'.ownsRow base e 1 v' (n + 1) (xs ++ [u]) → (W.alloc (.cells #[u] te)).grownBy w' v.ownBlock → (v'.ownBlock = v.ownBlock ∨ v'.ownBlock = some (W.alloc (.cells #[u] te)).heap.size) → wpList P ops Q rest (a.put o.dst v') w') :
    wpList P ops Q (o :: rest) a (W.alloc (.cells #[u] te)) :=
  wpList_append_new hgd s x t ho base e i z 1 bytes ht hi hz hsize hby hzs (by decide) v n xs hs (hown.alloc _) ⟨W.heap.size, 0, none⟩ 1 c [u] hx rfl
    (fun j y hj => by
      cases j with
      | zero =>
        simp only [List.getElem?_cons_zero, Option.some.injEq] at hj
        subst hj
        show (W.alloc (.cells #[u] te)).cell? ⟨W.heap.size, 0, none⟩ = some u
        rw [World.cell?_alloc_at _ _ _ _ rfl]; rfl
      | succ j => simp at hj)
    (fun y hy => by simp only [List.mem_singleton] at hy; rw [hy]; exact hu) h63 hbytes (Nat.le_trans hbase (by simp)) h
theorem own_block {g o n c k : Nat} (h : (Value.slice (some ⟨g, o, none⟩) n c).ownBlock = some k) : k = g := by cases h; rfl
/-- A row of the call's own stays what it is while its block does. -/
theorem own_keep {B base n size : Nat} {w w' : World} {e : TypeId} {v : Value} {xs : List Value} (h : w.ownsRow base e size v n xs) (hb : Below B w w') (hlt : ∀ k, v.ownBlock = some k → k < B) : w'.ownsRow base e size v n xs := by
  obtain ⟨hx, h0 | ⟨g, cap, cur, rfl, hg, hh, h2⟩⟩ := h
  · exact ⟨hx, Or.inl h0⟩
  · exact ⟨hx, Or.inr ⟨g, cap, cur, rfl, hg, (hb.block g (hlt g rfl)).trans hh, h2⟩⟩
/-- append of two elements of one cell, to a row of the call's own. -/
theorem append_two {P : Program} {ops : Array Oper} {rest : List Oper} {o : Oper} {a : Act} {Q : Exit → Act → World → Prop} {W : World} {u1 u2 : Value} {te : TypeId} (hgd : o.guard = none) (s x : Operand) (t : TypeId)
    (ho : o.op = .call { callee := .builtin .append, args := #[s, x], argTypes := #[t, t] })
    (base : Nat) (e : TypeId) (i : TypeInfo) (z : Value) (bytes : Nat) (ht : P.underlying t = some (.slice e)) (hi : P.info? e = some i) (hz : i.zero = some z)
    (hsize : i.size = 1) (hby : i.bytes = bytes) (hzs : z.cells.size = 1)
    (v : Value) (n : Nat) (xs : List Value) (hs : a.eval s = v) (hown : W.ownsRow base e 1 v n xs)
    (h1 : u1.oneCell' = true) (h2 : u2.oneCell' = true) (c : Nat) (hx : a.eval x = .slice (some ⟨W.heap.size, 0, none⟩) 2 c)
    (h63 : n + 2 ≤ maxLen) (hbytes : (n + 2) * bytes ≤ 140737488355328) (hbase : base ≤ W.heap.size)
    (h : ∀ v' w', w'.ownsRow base e 1 v' (n + 2) (xs ++ [u1, u2]) → (W.alloc (.cells #[u1, u2] te)).grownBy w' v.ownBlock → wpList P ops Q rest (a.put o.dst v') w') :
    wpList P ops Q (o :: rest) a (W.alloc (.cells #[u1, u2] te)) :=
  wpList_append_own _ hgd s x t ho base e i z 1 bytes ht hi hz hsize hby hzs (by decide) v n xs hs (hown.alloc _) ⟨W.heap.size, 0, none⟩ 2 c [u1, u2] hx rfl
    (fun j y hj => by
      have hb : Blk (W.alloc (.cells #[u1, u2] te)) W.heap.size te #[u1, u2] := Blk.new W te _
      have hadd : (⟨W.heap.size, 0, none⟩ : Addr).add j = ⟨W.heap.size, j, none⟩ := by unfold Addr.add; split <;> simp_all
      rw [hadd, hb.cell j]
      simpa using hj)
    (fun y hy => by
      simp only [List.mem_cons, List.not_mem_nil, or_false] at hy
      rcases hy with rfl | rfl
      · exact h1
      · exact h2) h63 hbytes (Nat.le_trans hbase (by simp)) (fun v' w' e1 e2 _ => h v' w' e1 e2)
/-- The row does not lie in the block g. -/
def Off (v : Value) (g : Nat) : Prop := ∀ k, v.ownBlock = some k → k ≠ g
theorem Off.next {v v' : Value} {g n : Nat} (h : Off v g) (hg : g < n) (hb : v'.ownBlock = v.ownBlock ∨ v'.ownBlock = some n) : Off v' g := by
  intro k hk
  rcases hb with e | e
  · exact h k (e ▸ hk)
  · rw [hk] at e; cases e; omega
theorem Blk.off {w w' : World} {g : Nat} {t : TypeId} {cs : Array Value} {v : Value} (h : Blk w g t cs) (hg : w.grownBy w' v.ownBlock) (ho : Off v g) : Blk w' g t cs :=
  h.grown hg (fun e => ho g e.symm rfl)
/-- The call gives these integers, in memory of its own, and a bool. -/
def Gives2 (w : World) (l : List Int) (b : Bool) (e : Ending) (w' : World) : Prop := ∃ a c, e = .returned (.tuple #[.slice a l.length c, .bool b]) ∧ l.length ≤ c ∧ c ≤ maxLen ∧ Fresh w' w.heap.size 3 a (intCells l) ∧ Below w.heap.size w w'
theorem Gives2.none {w w' : World} {b : Bool} (hb : Below w.heap.size w w') : Gives2 w [] b (.returned (.tuple #[.slice none 0 0, .bool b])) w' := ⟨_, _, rfl, Nat.le_refl _, Nat.zero_le _, Or.inl rfl, hb⟩
theorem Gives.with {w w' : World} {l : List Int} {v : Value} {b : Bool} (h : Gives w l (.returned v) w') : Gives2 w l b (.returned (.tuple #[v, .bool b])) w' := by
  obtain ⟨a, c, he, h1, h2, h3, h4⟩ := h
  cases he
  exact ⟨a, c, rfl, h1, h2, h3, h4⟩
end Go.Proofs.Ytfaagbmaekoogaa
namespace Go.Proofs.Ytfaagbmaekoogaa
open Go.RowKit

theorem append_row {P : Program} {ops : Array Oper} {rest : List Oper} {o : Oper} {a : Act} {Q : Exit → Act → World → Prop} {W : World} (hgd : o.guard = none) (s x : Operand) (t : TypeId)
    (ho : o.op = .call { callee := .builtin .append, args := #[s, x], argTypes := #[t, t] })
    (base : Nat) (e : TypeId) (i : TypeInfo) (z : Value) (bytes : Nat) (ht : P.underlying t = some (.slice e)) (hi : P.info? e = some i) (hz : i.zero = some z)
    (hsize : i.size = 1) (hby : i.bytes = bytes) (hzs : z.cells.size = 1)
    (v : Value) (n : Nat) (xs : List Value) (hs : a.eval s = v) (hown : W.ownsRow base e 1 v n xs)
    (ad : Option Addr) (m c : Nat) (cs : List Value) (hx : a.eval x = .slice ad m c) (hr : RowAt W ad cs) (hm : cs.length = m) (hu : ∀ u ∈ cs, u.oneCell' = true)
    (h63 : n + m ≤ maxLen) (hbytes : (n + m) * bytes ≤ 140737488355328) (hbase : base ≤ W.heap.size)
    (h : ∀ v' w', w'.ownsRow base e 1 v' (n + m) (xs ++ cs) → W.grownBy w' v.ownBlock → wpList P ops Q rest (a.put o.dst v') w') :
    wpList P ops Q (o :: rest) a W := by
  rcases hr with rfl | ⟨b, off, rfl, hlt, hc⟩
  · obtain rfl : m = 0 := hm.symm
    have hv : ∃ bo cap, v = .slice bo n cap ∧ n ≤ cap := by
      obtain ⟨_, ⟨h1, rfl⟩ | ⟨g, cap, cur, h1, _, _, hle, _⟩⟩ := hown
      · exact ⟨none, 0, h1, Nat.le_refl _⟩
      · exact ⟨_, cap, h1, hle⟩
    obtain ⟨bo, cap, rfl, hle⟩ := hv
    have hsrc : Src P i.size t (.slice ad 0 c) 0 [] W := by
      cases ad with
      | none => exact Src.ofNil W ht c
      | some ad => exact Src.ofSlice W ht ad 0 c [] (by simp) (fun j u hj => by simp at hj) (fun _ h => by cases h)
    refine Lib.wpList_append_run_sl W hgd s x t ho _ _ hs hx (run_append_nothing W t t o.type e i ht hi bo n cap hle _ hsrc) (h _ _ ?_ (World.grownBy.refl _ _))
    simpa using hown
  · exact wpList_append_own W hgd s x t ho base e i z 1 bytes ht hi hz hsize hby hzs (by decide) v n xs hs hown ⟨b, off, none⟩ m c cs hx (by rw [hm, Nat.mul_one])
      (fun j u hj => by rw [show (⟨b, off, none⟩ : Addr).add j = ⟨b, off + j, none⟩ from by unfold Addr.add; split <;> simp_all]; exact hc j u hj) hu h63 hbytes hbase (fun v' w' h1 h2 _ => h v' w' h1 h2)
theorem intCells_one (l : List Int) : ∀ u ∈ intCells l, u.oneCell' = true := by
  intro u hu
  simp only [intCells, List.mem_map] at hu
  obtain ⟨x, _, rfl⟩ := hu
  rfl
end Go.Proofs.Ytfaagbmaekoogaa
namespace Go.Proofs.Ytfaagbmaekoogaa
open Go.RowKit

/-- An inner row as the outer one holds it. -/
structure Hd where
  a : Option Addr
  c : Nat
  l : List Int
def Hd.val (h : Hd) : Value := .slice h.a h.l.length h.c
def hdCells (hs : List Hd) : List Value := hs.map Hd.val
theorem hdCells_len (hs : List Hd) : (hdCells hs).length = hs.length := by simp [hdCells]
theorem hdCells_get {hs : List Hd} {i : Nat} (hi : i < hs.length) : (hdCells hs)[i]? = some hs[i].val := by simp [hdCells, hi]
theorem hdCells_one (hs : List Hd) : ∀ u ∈ hdCells hs, u.oneCell' = true := by
  intro u hu
  simp only [hdCells, List.mem_map] at hu
  obtain ⟨h, _, rfl⟩ := hu
  rfl
theorem hdCells_snoc (hs : List Hd) (h : Hd) : hdCells hs ++ [h.val] = hdCells (hs ++ [h]) := by simp [hdCells]

/-- The address a leads to rows of integers. -/
def GridAt (w : World) (a : Option Addr) (L : List (List Int)) : Prop := ∃ hs : List Hd, hs.map Hd.l = L ∧ RowAt w a (hdCells hs) ∧ ∀ h ∈ hs, RowAt w h.a (intCells h.l)
theorem GridAt.below {w w' : World} {a : Option Addr} {L : List (List Int)} (h : GridAt w a L) (hb : Below w.heap.size w w') : GridAt w' a L := by
  obtain ⟨hs, h1, h2, h3⟩ := h
  exact ⟨hs, h1, h2.below hb, fun x hx => (h3 x hx).below hb⟩
theorem GridAt.at {w : World} {a : Option Addr} {L : List (List Int)} (h : GridAt w a L) {i : Nat} (hi : i < L.length) :
    ∃ b o ai ci, a = some ⟨b, o, none⟩ ∧ b < w.heap.size ∧ w.cell? ⟨b, o + i, none⟩ = some (.slice ai L[i].length ci) ∧ RowAt w ai (intCells L[i]) := by
  obtain ⟨hs, rfl, h2, h3⟩ := h
  have hi' : i < hs.length := by simpa using hi
  obtain ⟨b, o, rfl, hb, hc⟩ := h2.at (i := i) (by rw [hdCells_len]; exact hi')
  refine ⟨b, o, hs[i].a, hs[i].c, rfl, hb, ?_, ?_⟩
  · rw [hc i _ (hdCells_get hi')]; simp [Hd.val]
  · have := h3 hs[i] (List.getElem_mem hi')
    simpa using this
theorem GridAt.get {w : World} {a : Option Addr} {L : List (List Int)} (h : GridAt w a L) {i : Nat} {r : List Int} (hi : L[i]? = some r) :
    ∃ b o ai ci, a = some ⟨b, o, none⟩ ∧ b < w.heap.size ∧ w.cell? ⟨b, o + i, none⟩ = some (.slice ai r.length ci) ∧ RowAt w ai (intCells r) := by
  obtain ⟨h1, rfl⟩ := List.getElem?_eq_some_iff.1 hi
  exact h.at h1
theorem intCells_get? {w : World} {a : Option Addr} {l : List Int} {x : Int} (h : RowAt w a (intCells l)) {i : Nat} (hi : l[i]? = some x) : ∃ b o, a = some ⟨b, o, none⟩ ∧ b < w.heap.size ∧ w.cell? ⟨b, o + i, none⟩ = some (.int .i64 x) := by
  obtain ⟨h1, rfl⟩ := List.getElem?_eq_some_iff.1 hi
  exact intCells_at h h1
theorem get_some {α : Type} {l : List α} {i : Nat} (h : i < l.length) : ∃ x, l[i]? = some x := ⟨l[i], List.getElem?_eq_getElem h⟩
theorem get_mem {α : Type} {l : List α} {i : Nat} {x : α} (h : l[i]? = some x) : x ∈ l := List.mem_of_getElem? h
theorem GridAt.nil (w : World) (a : Option Addr) : GridAt w a [] := ⟨[], rfl, Or.inl rfl, fun _ h => by cases h⟩

/-- Nothing is written but into the blocks from lo on below hi, and into new ones. -/
def Only (lo hi : Nat) (w w' : World) : Prop :=
  w'.os = w.os ∧ w'.tape = w.tape ∧ w'.output = w.output ∧ w.heap.size ≤ w'.heap.size ∧ ∀ k, k < w.heap.size → k < lo ∨ hi ≤ k → w'.heap[k]? = w.heap[k]?
section
variable {lo hi : Nat} {w w' w'' : World}
theorem Only.refl (lo hi : Nat) (w : World) : Only lo hi w w := ⟨rfl, rfl, rfl, Nat.le_refl _, fun _ _ _ => rfl⟩
theorem Only.size (h : Only lo hi w w') : w.heap.size ≤ w'.heap.size := h.2.2.2.1
theorem Only.trans (h : Only lo hi w w') (h' : Only lo hi w' w'') : Only lo hi w w'' :=
  ⟨h'.1.trans h.1, h'.2.1.trans h.2.1, h'.2.2.1.trans h.2.2.1, Nat.le_trans h.size h'.size, fun k hk ho => (h'.2.2.2.2 k (Nat.lt_of_lt_of_le hk h.size) ho).trans (h.2.2.2.2 k hk ho)⟩
theorem Only.mono (h : Only lo hi w w') {lo' hi' : Nat} (h1 : lo' ≤ lo) (h2 : hi ≤ hi') : Only lo' hi' w w' :=
  ⟨h.1, h.2.1, h.2.2.1, h.size, fun k hk ho => h.2.2.2.2 k hk (by omega)⟩
theorem Only.of_below (h : Below w.heap.size w w') (lo hi : Nat) : Only lo hi w w' := ⟨h.os, h.tape, h.output, h.size, fun k hk _ => h.block k hk⟩
theorem Only.of_grown {g : Nat} (h : w.grownBy w' (some g)) : Only g (g + 1) w w' := ⟨h.os, h.tape, h.output, h.size, fun k hk ho => h.block k hk (fun e => by cases e; omega)⟩
theorem Only.below (h : Only lo hi w w') {B : Nat} (hB : B ≤ lo) (hw : B ≤ w.heap.size) : Below B w w' := ⟨h.1, h.2.1, h.2.2.1, h.size, fun k hk => h.2.2.2.2 k (by omega) (Or.inl (by omega))⟩
theorem Only.block {g : Nat} {t : TypeId} {cs : Array Value} (h : Only lo hi w w') (hk : Blk w g t cs) (ho : g < lo ∨ hi ≤ g) : Blk w' g t cs := (h.2.2.2.2 g hk.lt ho).trans hk
end

/-- A row whose block is known, from lo on below hi: it can be written. -/
def RowIn (w : World) (lo hi : Nat) (t : TypeId) (a : Option Addr) (cs : List Value) : Prop :=
  cs = [] ∨ ∃ g o all, a = some ⟨g, o, none⟩ ∧ lo ≤ g ∧ g < hi ∧ Blk w g t all ∧ ∀ i v, cs[i]? = some v → all[o + i]? = some v
section
variable {w w' : World} {lo hi : Nat} {t : TypeId} {a : Option Addr} {cs : List Value}
theorem RowIn.fresh (h : RowIn w lo hi t a cs) : Fresh w lo t a cs := by
  rcases h with h | ⟨g, o, all, rfl, h1, _, hk, hc⟩
  · exact Or.inl h
  · exact Or.inr ⟨g, o, all, rfl, h1, hk, hc⟩
theorem RowIn.of_fresh (h : Fresh w lo t a cs) : RowIn w lo w.heap.size t a cs := by
  rcases h with h | ⟨g, o, all, rfl, h1, hk, hc⟩
  · exact Or.inl h
  · exact Or.inr ⟨g, o, all, rfl, h1, hk.lt, hk, hc⟩
theorem RowIn.of_blk {g : Nat} (h : Blk w g t cs.toArray) (h1 : lo ≤ g) (h2 : g < hi) : RowIn w lo hi t (some ⟨g, 0, none⟩) cs :=
  Or.inr ⟨g, 0, _, rfl, h1, h2, h, fun i v hv => by rw [Nat.zero_add]; simpa using hv⟩
theorem RowIn.row (h : RowIn w lo hi t a cs) : RowAt w a cs := h.fresh.row
theorem RowIn.mono (h : RowIn w lo hi t a cs) {lo' hi' : Nat} (h1 : lo' ≤ lo) (h2 : hi ≤ hi') : RowIn w lo' hi' t a cs := by
  rcases h with h | ⟨g, o, all, rfl, h3, h4, hk, hc⟩
  · exact Or.inl h
  · exact Or.inr ⟨g, o, all, rfl, Nat.le_trans h1 h3, Nat.lt_of_lt_of_le h4 h2, hk, hc⟩
theorem RowIn.below (h : RowIn w lo hi t a cs) (hb : Below w.heap.size w w') : RowIn w' lo hi t a cs := by
  rcases h with h | ⟨g, o, all, rfl, h3, h4, hk, hc⟩
  · exact Or.inl h
  · exact Or.inr ⟨g, o, all, rfl, h3, h4, hk.below hb hk.lt, hc⟩
theorem RowIn.only {lo' hi' : Nat} (h : RowIn w lo hi t a cs) (ho : Only lo' hi' w w') (hd : hi ≤ lo' ∨ hi' ≤ lo) : RowIn w' lo hi t a cs := by
  rcases h with h | ⟨g, o, all, rfl, h3, h4, hk, hc⟩
  · exact Or.inl h
  · exact Or.inr ⟨g, o, all, rfl, h3, h4, ho.block hk (by omega), hc⟩
end

/-- Two inner rows lie in blocks of their own. -/
def Apart (h h' : Hd) : Prop := h.l = [] ∨ h'.l = [] ∨ ∀ g o g' o', h.a = some ⟨g, o, none⟩ → h'.a = some ⟨g', o', none⟩ → g ≠ g'
/-- The inner rows lie in blocks of their own, and none is longer than its capacity. -/
def Apts (hs : List Hd) : Prop := hs.Pairwise Apart ∧ ∀ h ∈ hs, h.l.length ≤ h.c
theorem Apts.nil : Apts [] := ⟨List.Pairwise.nil, fun _ h => by cases h⟩
theorem Apts.one {x : Hd} (hc : x.l.length ≤ x.c) : Apts [x] := ⟨List.pairwise_singleton _ _, fun h hh => by rw [List.mem_singleton.1 hh]; exact hc⟩
theorem Apts.snoc {hs : List Hd} {x : Hd} (h : Apts hs) (hx : ∀ y ∈ hs, Apart y x) (hc : x.l.length ≤ x.c) : Apts (hs ++ [x]) := by
  refine ⟨?_, fun y hy => ?_⟩
  · rw [List.pairwise_append]
    exact ⟨h.1, List.pairwise_singleton _ _, fun y hy z hz => by rw [List.mem_singleton.1 hz]; exact hx y hy⟩
  · rcases List.mem_append.1 hy with hy | hy
    · exact h.2 y hy
    · rw [List.mem_singleton.1 hy]; exact hc
/-- Rows of rows in blocks from lo on below hi, each in one of its own: they can be written. -/
def GridIn (w : World) (lo hi : Nat) (a : Option Addr) (L : List (List Int)) : Prop :=
  ∃ hs : List Hd, hs.map Hd.l = L ∧ RowIn w lo hi 42 a (hdCells hs) ∧ (∀ h ∈ hs, RowIn w lo hi 3 h.a (intCells h.l)) ∧ Apts hs
section
variable {w w' : World} {lo hi : Nat} {a : Option Addr} {L : List (List Int)}
theorem GridIn.grid (h : GridIn w lo hi a L) : GridAt w a L := by
  obtain ⟨hs, h1, h2, h3, _⟩ := h
  exact ⟨hs, h1, h2.row, fun x hx => (h3 x hx).row⟩
theorem GridIn.mono (h : GridIn w lo hi a L) {lo' hi' : Nat} (h1 : lo' ≤ lo) (h2 : hi ≤ hi') : GridIn w lo' hi' a L := by
  obtain ⟨hs, e, h3, h4, h5⟩ := h
  exact ⟨hs, e, h3.mono h1 h2, fun x hx => (h4 x hx).mono h1 h2, h5⟩
theorem GridIn.below (h : GridIn w lo hi a L) (hb : Below w.heap.size w w') : GridIn w' lo hi a L := by
  obtain ⟨hs, e, h3, h4, h5⟩ := h
  exact ⟨hs, e, h3.below hb, fun x hx => (h4 x hx).below hb, h5⟩
theorem GridIn.only {lo' hi' : Nat} (h : GridIn w lo hi a L) (ho : Only lo' hi' w w') (hd : hi ≤ lo' ∨ hi' ≤ lo) : GridIn w' lo hi a L := by
  obtain ⟨hs, e, h3, h4, h5⟩ := h
  exact ⟨hs, e, h3.only ho hd, fun x hx => (h4 x hx).only ho hd, h5⟩
theorem GridIn.nil (w : World) (lo hi : Nat) (a : Option Addr) : GridIn w lo hi a [] := ⟨[], rfl, Or.inl rfl, fun _ h => (by cases h), Apts.nil⟩
end
/-- Rows that are read, none longer than its capacity. -/
def GridC (w : World) (a : Option Addr) (L : List (List Int)) : Prop := ∃ hs : List Hd, hs.map Hd.l = L ∧ RowAt w a (hdCells hs) ∧ (∀ h ∈ hs, RowAt w h.a (intCells h.l)) ∧ ∀ h ∈ hs, h.l.length ≤ h.c
theorem GridC.grid {w : World} {a : Option Addr} {L : List (List Int)} (h : GridC w a L) : GridAt w a L := by
  obtain ⟨hs, h1, h2, h3, _⟩ := h; exact ⟨hs, h1, h2, h3⟩
theorem GridIn.gridc {w : World} {lo hi : Nat} {a : Option Addr} {L : List (List Int)} (h : GridIn w lo hi a L) : GridC w a L := by
  obtain ⟨hs, h1, h2, h3, h4⟩ := h
  exact ⟨hs, h1, h2.row, fun x hx => (h3 x hx).row, h4.2⟩
theorem GridC.below {w w' : World} {a : Option Addr} {L : List (List Int)} (h : GridC w a L) (hb : Below w.heap.size w w') : GridC w' a L := by
  obtain ⟨hs, h1, h2, h3, h4⟩ := h
  exact ⟨hs, h1, h2.below hb, fun x hx => (h3 x hx).below hb, h4⟩
theorem GridC.cell {w : World} {a : Option Addr} {L : List (List Int)} (h : GridC w a L) {i : Nat} {r : List Int} (hi : L[i]? = some r) : ∃ b o ai ci, a = some ⟨b, o, none⟩ ∧ r.length ≤ ci ∧ (∀ W, Below w.heap.size w W → W.cell? ⟨b, o + i, none⟩ = some (.slice ai r.length ci)) ∧ ∀ W, Below w.heap.size w W → RowAt W ai (intCells r) := by
  obtain ⟨hs, rfl, h2, h3, h4⟩ := h
  obtain ⟨h5, rfl⟩ := List.getElem?_eq_some_iff.1 hi
  have h6 : i < hs.length := by simpa using h5
  obtain ⟨b, o, rfl, hb, hc⟩ := h2.at (i := i) (by rw [hdCells_len]; exact h6)
  have hm := List.getElem_mem h6
  refine ⟨b, o, hs[i].a, hs[i].c, rfl, by have := h4 _ hm; simpa using this, fun W hW => ?_, fun W hW => ?_⟩
  · rw [hW.cell hb, hc i _ (hdCells_get h6)]; simp [Hd.val]
  · have := (h3 _ hm).below hW; simpa using this

/-- How many integers the rows hold together. -/
def sumLen (L : List (List Int)) : Nat := (L.map List.length).sum
theorem sumLen_flat (L : List (List Int)) : sumLen L = L.flatten.length := by simp [sumLen, List.length_flatten]
theorem sumLen_nil : sumLen [] = 0 := rfl
theorem sumLen_take {L : List (List Int)} {i : Nat} (h : i < L.length) : sumLen (L.take (i + 1)) = sumLen (L.take i) + L[i].length := by
  unfold sumLen; rw [List.take_succ_eq_append_getElem h, List.map_append, List.sum_append]; simp
theorem sumLen_le (L : List (List Int)) (i : Nat) : sumLen (L.take i) ≤ sumLen L := by
  have : sumLen L = sumLen (L.take i) + sumLen (L.drop i) := by unfold sumLen; rw [← List.sum_append, ← List.map_append, List.take_append_drop]
  omega
theorem sumLen_all (L : List (List Int)) : sumLen (L.take L.length) = sumLen L := by rw [List.take_of_length_le (Nat.le_refl _)]
theorem len_le_sumLen {L : List (List Int)} {i : Nat} (h : i < L.length) : L[i].length ≤ sumLen L := by
  have := sumLen_take h; have := sumLen_le L (i + 1); omega
def tot (L : List (List Int)) : Nat := L.length + sumLen L
end Go.Proofs.Ytfaagbmaekoogaa
namespace Go.Proofs.Ytfaagbmaekoogaa
open Go.RowKit

theorem RowIn.grownOf {w w' : World} {lo hi : Nat} {t : TypeId} {a : Option Addr} {cs : List Value} {row : Option Nat} (h : RowIn w lo hi t a cs) (hg : w.grownBy w' row) {e : TypeId} (he : e ≠ t) (hr : ∀ k, row = some k → ∃ cur, w.heap[k]? = some (.cells cur e (0, 0))) : RowIn w' lo hi t a cs := by
  rcases h with h | ⟨g, o, all, rfl, h3, h4, hk, hc⟩
  · exact Or.inl h
  · refine Or.inr ⟨g, o, all, rfl, h3, h4, hk.grown hg (fun e' => ?_), hc⟩
    obtain ⟨cur, h5⟩ := hr g e'.symm
    unfold Blk at hk
    rw [hk] at h5
    injection h5 with h5; injection h5 with _ h6 _
    exact he h6.symm
theorem own_type {w : World} {base n : Nat} {e : TypeId} {v : Value} {xs : List Value} (h : w.ownsRow base e 1 v n xs) : ∀ k, v.ownBlock = some k → ∃ cur, w.heap[k]? = some (.cells cur e (0, 0)) := by
  intro k hk
  rcases h.2 with ⟨rfl, _⟩ | ⟨g, cap, cur, rfl, _, hh, _⟩
  · cases hk
  · cases hk; exact ⟨cur, hh⟩
/-- One polygon more. -/
theorem grid_step {N i c : Nat} {hs : List Hd} {wr w2 w3 : World} {ov : Value} {a : Option Addr} {l : List Int} {o : Obj} (hin : ∀ h ∈ hs, RowIn wr N wr.heap.size 3 h.a (intCells h.l)) (hap : Apts hs)
    (hown : w2.ownsRow N 42 1 ov i (hdCells hs)) (hN : N ≤ wr.heap.size) (hf : Fresh w2 wr.heap.size 3 a (intCells l)) (hb : Below wr.heap.size wr w2) (hg : (w2.alloc o).grownBy w3 ov.ownBlock) (hlc : l.length ≤ c) :
    (∀ h ∈ hs ++ [(⟨a, c, l⟩ : Hd)], RowIn w3 N w3.heap.size 3 h.a (intCells h.l)) ∧ Apts (hs ++ [(⟨a, c, l⟩ : Hd)]) := by
  have hal : Below w2.heap.size w2 (w2.alloc o) := (Below.refl w2.heap.size w2).alloc (Nat.le_refl _) o
  have hty := own_type (hown.alloc o)
  have hs3 : w2.heap.size ≤ w3.heap.size := Nat.le_trans hal.size hg.size
  have hs2 := hb.size
  have hold : ∀ h ∈ hs, RowIn w3 N wr.heap.size 3 h.a (intCells h.l) := fun h hh => (((hin h hh).below hb).below hal).grownOf hg (by decide) hty
  have hnew : RowIn w3 wr.heap.size w2.heap.size 3 a (intCells l) := ((RowIn.of_fresh hf).below hal).grownOf hg (by decide) hty
  constructor
  · intro h hh
    rcases List.mem_append.1 hh with hh | hh
    · exact (hold h hh).mono (Nat.le_refl _) (by omega)
    · simp only [List.mem_singleton] at hh
      subst hh
      exact hnew.mono hN hs3
  · refine hap.snoc (fun x hx => ?_) hlc
    rcases hold x hx with e | ⟨g, o1, all, e, e1, e2, _⟩
    · exact Or.inl (by simpa [intCells] using e)
    · rcases hnew with e' | ⟨g', o', all', e', e1', e2', _⟩
      · exact Or.inr (Or.inl (by simpa [intCells] using e'))
      · right; right
        intro g1 o1 g2 o2 h1 h2
        rw [e] at h1; cases h1
        rw [show (⟨a, c, l⟩ : Hd).a = a from rfl, e'] at h2; cases h2
        omega
theorem grid_done {w : World} {N n : Nat} {hs : List Hd} {v : Value} (hown : w.ownsRow N 42 1 v n (hdCells hs)) (hn : hs.length = n) (hin : ∀ h ∈ hs, RowIn w N w.heap.size 3 h.a (intCells h.l)) (hap : Apts hs) :
    ∃ a c, v = .slice a n c ∧ n ≤ c ∧ c ≤ maxLen ∧ GridIn w N w.heap.size a (hs.map Hd.l) := by
  obtain ⟨a, c, rfl, hc, hf⟩ := own_fresh hown (by rw [hdCells_len]; exact hn)
  refine ⟨a, c, rfl, hc, ?_, ⟨hs, rfl, RowIn.of_fresh hf, hin, hap⟩⟩
  rcases hown.2 with ⟨e, _⟩ | ⟨g, cap, cur, e, _, _, _, hm, _⟩
  · cases e; unfold maxLen; omega
  · cases e; exact hm
/-- The call gives these rows, in memory of its own, and a bool. -/
def GivesRows2 (w : World) (L : List (List Int)) (b : Bool) (e : Ending) (w' : World) : Prop :=
  ∃ a c, e = .returned (.tuple #[.slice a L.length c, .bool b]) ∧ L.length ≤ c ∧ c ≤ maxLen ∧ GridIn w' w.heap.size w'.heap.size a L ∧ Below w.heap.size w w'
theorem GivesRows2.none {w w' : World} {a : Option Addr} {c : Nat} {b : Bool} (hb : Below w.heap.size w w') (hc : c ≤ maxLen) : GivesRows2 w [] b (.returned (.tuple #[.slice a 0 c, .bool b])) w' :=
  ⟨a, c, rfl, Nat.zero_le _, hc, GridIn.nil _ _ _ _, hb⟩
theorem made_rows {N : Nat} {w : World} (h : w.heap.size = N) : (w.alloc (.cells #[] 42)).ownsRow N 42 1 (.slice (some ⟨w.heap.size, 0, none⟩) 0 0) 0 (hdCells []) :=
  World.ownsRow_made (base := N) (e := 42) (size := 1) w #[] 0 (by omega) (by unfold maxLen; omega) (by rfl)


/-- A row of the call's own is laid in a literal of one row. -/
theorem grid_single {w : World} {N c : Nat} {a : Option Addr} {l : List Int} (hf : Fresh w N 3 a (intCells l)) (hN : N ≤ w.heap.size) (hlc : l.length ≤ c) :
    GridIn (w.alloc (.cells #[.slice a l.length c] 42)) N (w.heap.size + 1) (some ⟨w.heap.size, 0, none⟩) [l] := by
  refine ⟨[⟨a, c, l⟩], rfl, RowIn.of_blk (Blk.new w _ _) hN (by omega), fun h hh => ?_, Apts.one hlc⟩
  rw [List.mem_singleton.1 hh]
  exact ((RowIn.of_fresh hf).below ((Below.refl w.heap.size w).alloc (Nat.le_refl _) _)).mono (Nat.le_refl _) (by omega)
/-- append of a literal of elements of one cell, to a row of the call's own. -/
theorem append_lits {P : Program} {ops : Array Oper} {rest : List Oper} {o : Oper} {a : Act} {Q : Exit → Act → World → Prop} {W : World} (us : List Value) (m : Nat) (hm : us.length = m) {te : TypeId} (hgd : o.guard = none) (s x : Operand) (t : TypeId)
    (ho : o.op = .call { callee := .builtin .append, args := #[s, x], argTypes := #[t, t] })
    (base : Nat) (e : TypeId) (i : TypeInfo) (z : Value) (bytes : Nat) (ht : P.underlying t = some (.slice e)) (hi : P.info? e = some i) (hz : i.zero = some z)
    (hsize : i.size = 1) (hby : i.bytes = bytes) (hzs : z.cells.size = 1)
    (v : Value) (n : Nat) (xs : List Value) (hs : a.eval s = v) (hown : W.ownsRow base e 1 v n xs)
    (h1 : ∀ u ∈ us, u.oneCell' = true) (c : Nat) (hx : a.eval x = .slice (some ⟨W.heap.size, 0, none⟩) m c)
    (h63 : n + m ≤ maxLen) (hbytes : (n + m) * bytes ≤ 140737488355328) (hbase : base ≤ W.heap.size)
    (h : ∀ v' w', w'.ownsRow base e 1 v' (n + m) (xs ++ us) → (W.alloc (.cells us.toArray te)).grownBy w' v.ownBlock → wpList P ops Q rest (a.put o.dst v') w') :
    wpList P ops Q (o :: rest) a (W.alloc (.cells us.toArray te)) :=
  wpList_append_own _ hgd s x t ho base e i z 1 bytes ht hi hz hsize hby hzs (by decide) v n xs hs (hown.alloc _) ⟨W.heap.size, 0, none⟩ m c us hx (by rw [hm, Nat.mul_one])
    (fun j y hj => by
      have hb : Blk (W.alloc (.cells us.toArray te)) W.heap.size te us.toArray := Blk.new W te _
      have hadd : (⟨W.heap.size, 0, none⟩ : Addr).add j = ⟨W.heap.size, j, none⟩ := by unfold Addr.add; split <;> simp_all
      rw [hadd, hb.cell j]
      simpa using hj)
    h1 h63 hbytes (Nat.le_trans hbase (by simp)) (fun v' w' e1 e2 _ => h v' w' e1 e2)
end Go.Proofs.Ytfaagbmaekoogaa
namespace Go.Proofs.Ytfaagbmaekoogaa
open Go.RowKit

namespace Word
def Letter (x : Int) : Prop := x ≠ 0 ∧ -8 ≤ x ∧ x ≤ 8
instance (x : Int) : Decidable (Letter x) := by unfold Letter; exact inferInstance
def IsW (l : List Int) : Prop := (∀ x ∈ l, Letter x) ∧ l.length ≤ 24
instance (l : List Int) : Decidable (IsW l) := by unfold IsW; exact inferInstance
theorem IsW.at {l : List Int} (h : IsW l) {i : Nat} (hi : i < l.length) : Letter l[i] := h.1 _ (List.getElem_mem hi)
theorem bad_at {l : List Int} {i : Nat} (hi : i < l.length) (h : ¬ Letter l[i]) : ¬ IsW l := fun hw => h (hw.at hi)
theorem letter_iff (x : Int) : Letter x ↔ (x ≠ 0 ∧ -8 ≤ x ∧ x ≤ 8) := Iff.rfl
theorem letter_false {x : Int} (h : ¬ (x ≠ 0 ∧ -8 ≤ x ∧ x ≤ 8)) : decide (Letter x) = false := decide_eq_false h
theorem letter_true {x : Int} (h : x ≠ 0 ∧ -8 ≤ x ∧ x ≤ 8) : decide (Letter x) = true := decide_eq_true h
theorem letter_neg {x : Int} (h : ¬ (1 ≤ x ∧ x ≤ 8)) : decide (Letter x) = decide (-8 ≤ x ∧ x ≤ -1) := decide_eq_decide.2 (by rw [letter_iff]; omega)
theorem isW_len {l : List Int} (h : ∀ j (hj : j < l.length), j < l.length → Letter l[j]) : decide (IsW l) = decide (l.length ≤ 24) :=
  decide_eq_decide.2 ⟨fun x => x.2, fun hl => ⟨fun x hx => by obtain ⟨i, hi, rfl⟩ := List.mem_iff_getElem.1 hx; exact h i hi hi, hl⟩⟩
theorem all_letters {l : List Int} (h : ∀ j (hj : j < l.length), Letter l[j]) : ∀ x ∈ l, Letter x := by
  intro x hx
  obtain ⟨i, hi, rfl⟩ := List.mem_iff_getElem.1 hx
  exact h i hi

/-- The inverse of letters. -/
def inv (l : List Int) : List Int := (l.map fun x => -x).reverse
theorem inv_len (l : List Int) : (inv l).length = l.length := by simp [inv]
theorem inv_nil : inv [] = [] := rfl
theorem inv_cons (x : Int) (r : List Int) : inv (x :: r) = inv r ++ [-x] := by simp [inv]
theorem inv_drop {l : List Int} {i : Nat} (h : i < l.length) : inv (l.drop i) = inv (l.drop (i + 1)) ++ [-l[i]] := by
  rw [List.drop_eq_getElem_cons h, inv_cons]

/-- What stands after one letter more. -/
def redStep (out : List Int) (x : Int) : List Int := if out.getLast? = some (-x) then out.dropLast else out ++ [x]
def red (l : List Int) : List Int := l.foldl redStep []
theorem red_snoc (l : List Int) (x : Int) : red (l ++ [x]) = redStep (red l) x := by simp [red]
theorem red_take {l : List Int} {i : Nat} (h : i < l.length) : red (l.take (i + 1)) = redStep (red (l.take i)) l[i] := by
  rw [List.take_succ_eq_append_getElem h, red_snoc]
theorem redStep_len (out : List Int) (x : Int) : (redStep out x).length ≤ out.length + 1 := by
  unfold redStep; split <;> simp <;> omega
theorem red_len (l : List Int) : (red l).length ≤ l.length := by
  have key : ∀ (m s : List Int), (m.foldl redStep s).length ≤ s.length + m.length := by
    intro m
    induction m with
    | nil => intro s; simp
    | cons x m ih => intro s; have := ih (redStep s x); have := redStep_len s x; simp only [List.foldl_cons, List.length_cons]; omega
  have := key l []
  simpa [red] using this
theorem redStep_mem {p : Int → Prop} {out : List Int} {x : Int} (ho : ∀ y ∈ out, p y) (hx : p x) : ∀ y ∈ redStep out x, p y := by
  intro y hy
  unfold redStep at hy
  split at hy
  · exact ho y ((List.dropLast_sublist _).subset hy)
  · rcases List.mem_append.1 hy with h | h
    · exact ho y h
    · simp at h; rw [h]; exact hx
theorem red_mem {p : Int → Prop} {l : List Int} (h : ∀ x ∈ l, p x) : ∀ y ∈ red l, p y := by
  have key : ∀ (m s : List Int), (∀ x ∈ m, p x) → (∀ y ∈ s, p y) → ∀ y ∈ m.foldl redStep s, p y := by
    intro m
    induction m with
    | nil => intro s _ hs; exact hs
    | cons x m ih => intro s hm hs; exact ih _ (fun y hy => hm y (List.mem_cons_of_mem _ hy)) (redStep_mem hs (hm x (List.mem_cons_self ..)))
  exact key l [] h (fun _ h => by cases h)
theorem red_w {l : List Int} (h : IsW l) : IsW (red l) := ⟨red_mem h.1, Nat.le_trans (red_len l) h.2⟩
theorem step_back {out : List Int} {x : Int} {k : Nat} (hk : out.length = k + 1) (h : out[k]? = some (-x)) : redStep out x = out.take k := by
  have : out.getLast? = some (-x) := by rw [List.getLast?_eq_getElem?, hk]; simpa using h
  rw [redStep, if_pos this, List.dropLast_eq_take, hk]; simp
theorem step_on {out : List Int} {x : Int} {k : Nat} (hk : out.length = k + 1) {y : Int} (hy : out[k]? = some y) (h : y ≠ -x) : redStep out x = out ++ [x] := by
  have : out.getLast? ≠ some (-x) := by rw [List.getLast?_eq_getElem?, hk]; simp [hy, h]
  rw [redStep, if_neg this]
theorem step_first {out : List Int} {x : Int} (hk : out.length = 0) : redStep out x = out ++ [x] := by
  obtain rfl := List.eq_nil_of_length_eq_zero hk
  simp [redStep]

/-- The list without its two ends. -/
def mid (l : List Int) : List Int := (l.drop 1).dropLast
theorem mid_len (l : List Int) : (mid l).length = l.length - 2 := by simp [mid]; omega
theorem mid_get {l : List Int} {i : Nat} (h : i + 2 < l.length) : (mid l)[i]? = l[1 + i]? := by
  unfold mid
  rw [List.dropLast_eq_take, List.getElem?_take, if_pos (by simp; omega), List.getElem?_drop]
def core (l : List Int) : List Int := if h : 2 ≤ l.length ∧ l[0]? = (l.getLast?.map fun x => -x) then core (mid l) else l
termination_by l.length
decreasing_by rw [mid_len]; omega
theorem core_step {l : List Int} {x y : Int} {k : Nat} (hk : l.length = k + 2) (hx : l[0]? = some x) (hy : l[k + 1]? = some y) (h : x = -y) : core l = core (mid l) := by
  rw [core, dif_pos]
  refine ⟨by omega, ?_⟩
  rw [List.getLast?_eq_getElem?, hk, hx, show k + 2 - 1 = k + 1 from rfl, hy, h]; rfl
theorem core_stop {l : List Int} {x y : Int} {k : Nat} (hk : l.length = k + 2) (hx : l[0]? = some x) (hy : l[k + 1]? = some y) (h : x ≠ -y) : core l = l := by
  rw [core, dif_neg]
  rintro ⟨_, h2⟩
  rw [List.getLast?_eq_getElem?, hk, hx, show k + 2 - 1 = k + 1 from rfl, hy] at h2
  exact h (by simpa using h2)
theorem core_short {l : List Int} (hk : l.length < 2) : core l = l := by
  rw [core, dif_neg]
  rintro ⟨h, _⟩
  omega
theorem mid_mem {l : List Int} {y : Int} (h : y ∈ mid l) : y ∈ l := List.mem_of_mem_drop ((List.dropLast_sublist _).subset h)
theorem core_len (l : List Int) : (core l).length ≤ l.length := by
  induction h : l.length using Nat.strongRecOn generalizing l with
  | ind n ih =>
    rw [core]
    split
    · have := ih (mid l).length (by rw [mid_len]; omega) (mid l) rfl
      rw [mid_len] at this; omega
    · omega
theorem core_mem {l : List Int} {y : Int} (hy : y ∈ core l) : y ∈ l := by
  induction h : l.length using Nat.strongRecOn generalizing l with
  | ind n ih =>
    rw [core] at hy
    split at hy
    · exact mid_mem (ih (mid l).length (by rw [mid_len]; omega) hy rfl)
    · exact hy
theorem core_w {l : List Int} (h : IsW l) : IsW (core l) := ⟨fun x hx => h.1 x (core_mem hx), Nat.le_trans (core_len l) h.2⟩

/-- The word turned by k places. -/
def turn (l : List Int) (k : Int) : List Int := l.drop (k % (l.length : Int)).toNat ++ l.take (k % (l.length : Int)).toNat
theorem turn_len (l : List Int) (k : Int) : (turn l k).length = l.length := by
  unfold turn
  rw [List.length_append, List.length_drop, List.length_take]
  rcases Nat.eq_zero_or_pos l.length with h | h
  · omega
  · have := Int.emod_lt_of_pos k (show (0 : Int) < l.length by omega)
    have := Int.emod_nonneg k (show (l.length : Int) ≠ 0 by omega)
    omega
theorem turn_mem {l : List Int} {k y : Int} (h : y ∈ turn l k) : y ∈ l := by
  rcases List.mem_append.1 h with h | h
  · exact List.mem_of_mem_drop h
  · exact List.mem_of_mem_take h
theorem turn_w {l : List Int} (h : IsW l) (k : Int) : IsW (turn l k) := ⟨fun x hx => h.1 x (turn_mem hx), by rw [turn_len]; exact h.2⟩

/-- The answers. -/
def inverse (l : List Int) : List Int := if IsW l then inv l else []
def reduce (l : List Int) : List Int := if IsW l then red l else []
def coreOf (l : List Int) : List Int := if IsW l then core (red l) else []
def turned (l : List Int) (k : Int) : List Int := if IsW l then turn l k else []
def Conj (v w : List Int) : Prop := IsW v ∧ IsW w ∧ ((∃ k, k < (core (red v)).length ∧ turn (core (red v)) (k : Nat) = core (red w)) ∨ core (red v) = [] ∧ core (red w) = [])
def ProdOk (v w : List Int) : Prop := IsW (v ++ w)
def product (v w : List Int) : List Int := if IsW (v ++ w) then red (v ++ w) else []
theorem prod_iff (v w : List Int) : IsW (v ++ w) ↔ IsW v ∧ IsW w ∧ v.length + w.length ≤ 24 := by
  unfold IsW
  simp only [List.mem_append, List.length_append]
  constructor
  · rintro ⟨h, hl⟩
    exact ⟨⟨fun x hx => h x (Or.inl hx), by omega⟩, ⟨fun x hx => h x (Or.inr hx), by omega⟩, hl⟩
  · rintro ⟨⟨h1, _⟩, ⟨h2, _⟩, hl⟩
    exact ⟨fun x hx => hx.elim (h1 x) (h2 x), hl⟩
def sumPut (s : List Int) (x : Int) : List Int := if 0 < x then s.set (x - 1).toNat (s.getD (x - 1).toNat 0 + 1) else s.set (-x - 1).toNat (s.getD (-x - 1).toNat 0 - 1)
def sums (l : List Int) : List Int := l.foldl sumPut (List.replicate 8 0)
def sumsOf (l : List Int) : List Int := if IsW l then sums l else []
theorem sumPut_len (s : List Int) (x : Int) : (sumPut s x).length = s.length := by unfold sumPut; split <;> simp
theorem sums_take {l : List Int} {i : Nat} (h : i < l.length) : sums (l.take (i + 1)) = sumPut (sums (l.take i)) l[i] := by
  rw [List.take_succ_eq_append_getElem h]; unfold sums; rw [List.foldl_append]; rfl
theorem sums_len (l : List Int) : (sums l).length = 8 := by
  have key : ∀ (m s : List Int), (m.foldl sumPut s).length = s.length := by
    intro m
    induction m with
    | nil => intro s; rfl
    | cons x m ih => intro s; rw [List.foldl_cons, ih, sumPut_len]
  rw [sums, key]; rfl
/-- A sum of letters is no greater than their number. -/
theorem sums_bound (l : List Int) : ∀ j, j < 8 → -(l.length : Int) ≤ (sums l).getD j 0 ∧ (sums l).getD j 0 ≤ l.length := by
  have key : ∀ (m s : List Int) (n : Nat), (∀ j, -(n : Int) ≤ s.getD j 0 ∧ s.getD j 0 ≤ n) → ∀ j, -((n + m.length : Nat) : Int) ≤ (m.foldl sumPut s).getD j 0 ∧ (m.foldl sumPut s).getD j 0 ≤ (n + m.length : Nat) := by
    intro m
    induction m with
    | nil => intro s n h j; simpa using h j
    | cons x m ih =>
      intro s n h j
      have := ih (sumPut s x) (n + 1) (fun j => by
        have hj := h j
        unfold sumPut
        split
        · have hx := h (x - 1).toNat
          rw [List.getD_eq_getElem?_getD, List.getElem?_set]
          rw [List.getD_eq_getElem?_getD] at hj
          split
          · split
            · simp only [Option.getD_some]; omega
            · simp; omega
          · omega
        · have hx := h (-x - 1).toNat
          rw [List.getD_eq_getElem?_getD, List.getElem?_set]
          rw [List.getD_eq_getElem?_getD] at hj
          split
          · split
            · simp only [Option.getD_some]; omega
            · simp; omega
          · omega) j
      simp only [List.foldl_cons, List.length_cons]
      rw [show n + (m.length + 1) = n + 1 + m.length from by omega]
      exact this
  intro j _
  have := key l (List.replicate 8 0) 0 (fun j => by
    rw [List.getD_eq_getElem?_getD, List.getElem?_replicate]; split <;> simp) j
  simpa [sums] using this

def low (x : Int) : UInt8 := if 0 < x then UInt8.ofNat (96 + x.toNat) else UInt8.ofNat (64 + (-x).toNat)
def text (l : List Int) : List UInt8 := l.map low
/-- WordText's answer. -/
def said (l : List Int) : List UInt8 := if IsW l then (if l = [] then [45] else text l) else []
/-- The letter of a byte; 0 where there is none. -/
def letterOf (b : UInt8) : Int := if 97 ≤ b.toNat ∧ b.toNat < 105 then (b.toNat : Int) - 96 else if 65 ≤ b.toNat ∧ b.toNat < 73 then -((b.toNat : Int) - 64) else 0
def Parses (s : List UInt8) : Prop := s = [45] ∨ (s ≠ [] ∧ s.length ≤ 24 ∧ ∀ b ∈ s, letterOf b ≠ 0)
instance (s : List UInt8) : Decidable (Parses s) := by unfold Parses; exact inferInstance
def parsed (s : List UInt8) : List Int := if s = [45] then [] else if Parses s then s.map letterOf else []
end Word
end Go.Proofs.Ytfaagbmaekoogaa
namespace Go.Proofs.Ytfaagbmaekoogaa
open Go.RowKit

set_option maxRecDepth 10000 in
set_option maxHeartbeats 400000 in
theorem impl_isLetter (x : Int) (w : World) : Calls Try.prog 156 #[.int .i64 x] w fun e w' => e = .returned (.bool (decide (Word.Letter x))) ∧ w' = w := by
  by_cases h0 : x = 0
  · have hd := Word.letter_false (x := x) (by omega)
    rw [hd]; subst h0; clear hd
    go_enter Try.func156, Try.ntmps156
    go_wp2
    go_ret
    exact ⟨rfl, rfl⟩
  · by_cases h1 : -8 ≤ x
    · by_cases h2 : x ≤ 8
      · have hd := Word.letter_true (x := x) (by omega)
        rw [hd]; clear hd
        go_enter Try.func156, Try.ntmps156
        go_wp2
        go_ret
        exact ⟨by simp [*], rfl⟩
      · have hd := Word.letter_false (x := x) (by omega)
        rw [hd]; clear hd
        go_enter Try.func156, Try.ntmps156
        go_wp2
        go_ret
        exact ⟨by simp [*], rfl⟩
    · have hd := Word.letter_false (x := x) (by omega)
      rw [hd]; clear hd
      go_enter Try.func156, Try.ntmps156
      go_wp2
      go_ret
      exact ⟨by simp [*], rfl⟩

set_option maxRecDepth 10000 in
set_option maxHeartbeats 400000 in
theorem spec_l1In (x lo hi : Int) (w : World) : Calls Try.prog 84 #[.int .i64 x, .int .i64 lo, .int .i64 hi] w fun e w' => e = .returned (.bool (decide (lo ≤ x ∧ x ≤ hi))) ∧ w' = w := by
  by_cases h1 : lo ≤ x
  · by_cases h2 : x ≤ hi
    · have hd : decide (lo ≤ x ∧ x ≤ hi) = true := by simp [h1, h2]
      rw [hd]; clear hd
      go_enter Try.func84, Try.ntmps84
      go_wp2
      go_ret
      exact ⟨by simp [*], rfl⟩
    · have hd : decide (lo ≤ x ∧ x ≤ hi) = false := by simp [h1, h2]
      rw [hd]; clear hd
      go_enter Try.func84, Try.ntmps84
      go_wp2
      go_ret
      exact ⟨by simp [*], rfl⟩
  · have hd : decide (lo ≤ x ∧ x ≤ hi) = false := by simp [h1]
    rw [hd]; clear hd
    go_enter Try.func84, Try.ntmps84
    go_wp2
    go_ret
    exact ⟨by simp [*], rfl⟩

set_option maxRecDepth 10000 in
set_option maxHeartbeats 400000 in
theorem spec_l2Letter (x : Int) (w : World) : Calls Try.prog 146 #[.int .i64 x] w fun e w' => e = .returned (.bool (decide (Word.Letter x))) ∧ w' = w := by
  by_cases h1 : 1 ≤ x ∧ x ≤ 8
  · have hd := Word.letter_true (x := x) (by omega)
    rw [hd]; clear hd
    have hc := spec_l1In x 1 8 w
    rw [show decide (1 ≤ x ∧ x ≤ 8) = true from by simp [h1]] at hc
    go_enter Try.func146, Try.ntmps146
    go_wp2_with fail
    refine hc.mono ?_
    rintro e w1 ⟨rfl, rfl⟩
    go_wp2
    go_ret
    exact ⟨rfl, rfl⟩
  · have hc := spec_l1In x 1 8 w
    rw [show decide (1 ≤ x ∧ x ≤ 8) = false from by simp only [decide_eq_false_iff_not]; exact h1] at hc
    have hd := Word.letter_neg h1
    rw [hd]; clear hd
    have hc2 := spec_l1In x (-8) (-1) w
    generalize decide (-8 ≤ x ∧ x ≤ -1) = r at hc2 ⊢
    clear h1
    go_enter Try.func146, Try.ntmps146
    go_wp2_with fail
    refine hc.mono ?_
    rintro e w1 ⟨rfl, rfl⟩
    go_wp2_with fail
    refine hc2.mono ?_
    rintro e w1 ⟨rfl, rfl⟩
    go_wp2
    go_ret
    exact ⟨rfl, rfl⟩

set_option maxRecDepth 10000 in
set_option maxHeartbeats 400000 in
theorem impl_IsWord_big (a : Option Addr) (c : Nat) (l : List Int) (w : World) (ha : RowAt w a (intCells l)) (hl : l.length ≤ 1000000000) :
    Calls Try.prog 142 #[.slice a l.length c] w fun e w' => e = .returned (.bool (decide (Word.IsW l))) ∧ Below w.heap.size w w' := by
  go_enter Try.func142, Try.ntmps142
  go_wp2
  go_loopw [2, 4, 7] (fun rv _ iv wr => rv = .bool false ∧ ∃ i : Nat, i ≤ l.length ∧ iv = .int .i64 i ∧ Hid (∀ j (hj : j < l.length), j < i → Word.Letter l[j]) ∧ Below w.heap.size w wr) (fun _ _ iv _ => l.length - (intOf iv).toNat)
  case atStart => exact ⟨rfl, 0, by omega, rfl, Lib.hid (fun j _ h => by omega), Below.refl _ _⟩
  case round =>
    obtain ⟨rfl, i, hi, rfl, hall, hb⟩ := hrel
    by_cases hlt : i < l.length
    · obtain ⟨b, o, rfl, hbw, hcell⟩ := intCells_at (ha.below hb) hlt
      have hc := impl_isLetter l[i] wr
      by_cases hL : Word.Letter l[i]
      · rw [decide_eq_true hL] at hc
        have Hc := Lib.hid hc; clear hc
        go_wp2_with fail
        refine Hc.out.mono ?_
        rintro e w1 ⟨rfl, rfl⟩
        go_wp2
        go_roundw
        case rel => exact ⟨rfl, i + 1, by omega, by go_num, Lib.hid (fun j hj h => by
          rcases Nat.lt_or_ge j i with h' | h'
          · exact hall.out j hj h'
          · obtain rfl : j = i := by omega
            exact hL), hb⟩
        case measure => simp [intOf]; omega
      · rw [decide_eq_false hL] at hc
        have hd : decide (Word.IsW l) = false := decide_eq_false (Word.bad_at hlt hL)
        have Hd := Lib.hid hd
        have Hc := Lib.hid hc; clear hc hd
        have HL := Lib.hid hL; clear hL
        go_wp2_with fail
        refine Hc.out.mono ?_
        rintro e w1 ⟨rfl, rfl⟩
        go_wp2
        go_ret
        refine ⟨?_, hb⟩
        rw [Hd.out]; rfl
    · obtain rfl : i = l.length := by omega
      have Hd := Lib.hid (Word.isW_len hall.out)
      by_cases h2 : l.length ≤ 24
      · go_wp2
        go_ret
        refine ⟨?_, hb⟩
        rw [Hd.out]; simp <;> omega
      · go_wp2
        go_ret
        refine ⟨?_, hb⟩
        rw [Hd.out]; simp <;> omega

set_option maxRecDepth 10000 in
set_option maxHeartbeats 400000 in
theorem spec_IsWord (a : Option Addr) (c : Nat) (l : List Int) (w : World) (ha : RowAt w a (intCells l)) (hl : l.length ≤ 1048576) :
    Calls Try.prog 114 #[.slice a l.length c] w fun e w' => e = .returned (.bool (decide (Word.IsW l))) ∧ Below w.heap.size w w' := by
  go_enter Try.func114, Try.ntmps114
  go_wp2
  go_loopw [2, 3] (fun rv iv wr => rv = .bool false ∧ ∃ i : Nat, i ≤ l.length ∧ iv = .int .i64 i ∧ Hid (∀ j (hj : j < l.length), j < i → Word.Letter l[j]) ∧ Below w.heap.size w wr) (fun _ iv _ => l.length - (intOf iv).toNat)
  case atStart => exact ⟨rfl, 0, by omega, rfl, Lib.hid (fun j _ h => by omega), Below.refl _ _⟩
  case round =>
    obtain ⟨rfl, i, hi, rfl, hall, hb⟩ := hrel
    by_cases hlt : i < l.length
    · obtain ⟨b, o, rfl, hbw, hcell⟩ := intCells_at (ha.below hb) hlt
      have hc := spec_l2Letter l[i] wr
      by_cases hL : Word.Letter l[i]
      · rw [decide_eq_true hL] at hc
        have Hc := Lib.hid hc; clear hc
        go_wp2_with fail
        refine Hc.out.mono ?_
        rintro e w1 ⟨rfl, rfl⟩
        go_wp2
        go_roundw
        case rel => exact ⟨rfl, i + 1, by omega, by go_num, Lib.hid (fun j hj h => by
          rcases Nat.lt_or_ge j i with h' | h'
          · exact hall.out j hj h'
          · obtain rfl : j = i := by omega
            exact hL), hb⟩
        case measure => simp [intOf]; omega
      · rw [decide_eq_false hL] at hc
        have hd : decide (Word.IsW l) = false := decide_eq_false (Word.bad_at hlt hL)
        have Hd := Lib.hid hd
        have Hc := Lib.hid hc; clear hc hd
        have HL := Lib.hid hL; clear hL
        go_wp2_with fail
        refine Hc.out.mono ?_
        rintro e w1 ⟨rfl, rfl⟩
        go_wp2
        go_ret
        refine ⟨?_, hb⟩
        rw [Hd.out]; rfl
    · obtain rfl : i = l.length := by omega
      have Hd := Lib.hid (Word.isW_len hall.out)
      by_cases h2 : l.length ≤ 24
      · go_wp2
        go_ret
        refine ⟨?_, hb⟩
        rw [Hd.out]; simp <;> omega
      · go_wp2
        go_ret
        refine ⟨?_, hb⟩
        rw [Hd.out]; simp <;> omega
theorem impl_IsWord (a : Option Addr) (c : Nat) (l : List Int) (w : World) (ha : RowAt w a (intCells l)) (hl : l.length ≤ 1048576) :
    Calls Try.prog 142 #[.slice a l.length c] w fun e w' => e = .returned (.bool (decide (Word.IsW l))) ∧ Below w.heap.size w w' :=
  impl_IsWord_big a c l w ha (Nat.le_trans hl (by decide))
end Go.Proofs.Ytfaagbmaekoogaa
namespace Go.Proofs.Ytfaagbmaekoogaa
open Go.RowKit

set_option maxRecDepth 10000 in
set_option maxHeartbeats 400000 in
theorem impl_ReduceWord (a : Option Addr) (c : Nat) (l : List Int) (w : World) (ha : RowAt w a (intCells l)) (hl : l.length ≤ 1048576) :
    Calls Try.prog 120 #[.slice a l.length c] w fun e w' => Gives w (Word.reduce l) e w' := by
  have hcW := impl_IsWord a c l w ha hl
  by_cases hW : Word.IsW l
  · rw [decide_eq_true hW] at hcW
    have Hcw := Lib.hid hcW; clear hcW
    have HW := Lib.hid hW; clear hW
    obtain ⟨i0, hi0, hz0, hz1, hz2⟩ := info_int_parts
    have Hinfo := Lib.hid (show Try.prog.info? 3 = some i0 ∧ i0.zero = some (.int .i64 0) ∧ i0.size = 1 ∧ i0.bytes = 8 from ⟨hi0, hz0, hz1, hz2⟩)
    clear hi0 hz0 hz1 hz2
    generalize hN : w.heap.size = N at *
    have HN := Lib.hid hN
    go_enter Try.func120, Try.ntmps120
    go_wp2_with fail
    refine Hcw.out.mono ?_
    rintro e w1 ⟨rfl, hb1⟩
    go_wp2
    clear hN
    go_loopw [3, 5, 6, 12] (fun ov _ _ iv wr => ∃ i : Nat, i ≤ l.length ∧ iv = .int .i64 i ∧ Below N w wr ∧ wr.ownsRow N 3 1 ov (Word.red (l.take i)).length (intCells (Word.red (l.take i)))) (fun _ _ _ iv _ => l.length - (intOf iv).toNat)
    case atStart => exact ⟨0, by omega, rfl, hb1, World.ownsRow_nil _ _ _ _⟩
    case round =>
      obtain ⟨i, hi, rfl, hb, hown⟩ := hrel
      by_cases hlt : i < l.length
      · have ha' : RowAt wr a (intCells l) := ha.below (by rw [HN.out]; exact hb)
        obtain ⟨b, o, rfl, hbw0, hcell⟩ := intCells_at ha' hlt
        have hLx := HW.out.at hlt
        obtain ⟨hx0, hx1, hx2⟩ := hLx
        have hst := Word.red_take hlt
        have hlen := Word.red_len (l.take i)
        rw [List.length_take] at hlen
        have hl24 := HW.out.2
        have hNle : N ≤ wr.heap.size := by have := hb.size; rw [HN.out] at this; exact this
        generalize hx : l[i] = x at *
        generalize hX : Word.red (l.take i) = X at *
        generalize hY : Word.red (l.take (i + 1)) = Y at *
        have HY := Lib.hid hY; have HX := Lib.hid hX; have Hx := Lib.hid hx
        clear hx hX hY
        obtain ⟨hi0, hz0, hz1, hz2⟩ := Hinfo.out
        have Hi0 := Lib.hid hi0; have Hz0 := Lib.hid hz0; have Hz1 := Lib.hid hz1; have Hz2 := Lib.hid hz2
        clear hi0 hz0 hz1 hz2
        have hc1 : X.length + 1 ≤ maxLen := by unfold maxLen; omega
        have hc2 : (X.length + 1) * 8 ≤ 140737488355328 := by omega
        cases hk : X.length with
        | zero =>
          rw [Word.step_first hk] at hst
          have Hst := Lib.hid hst; clear hst
          rw [hk] at hown hc1 hc2
          have hk' := Lib.hid hk; clear hk
          obtain ⟨av, cv, rfl⟩ := own_len hown
          go_wp2_with (at_builtin; refine append_one rfl (.tmp 33) (.tmp 35) 42 rfl N 3 i0 _ 8 Try.underlying42 Hi0.out Hz0.out Hz1.out Hz2.out (by rfl) _ _ _ rfl hown (by rfl) _ rfl hc1 hc2 hNle ?_; intro v1 w1 hown1 hg1 _)
          go_roundw
          case rel =>
            refine ⟨i + 1, by omega, by go_num, Below.grown (hb.alloc hNle _) hg1 (by simp; omega) (fun k hk => (hown.lt k hk).1), ?_⟩
            rw [HY.out, Hst.out, ← intCells_snoc, List.length_append, hk'.out]; exact hown1
          case measure => simp [intOf]; omega
        | succ k =>
          obtain ⟨y, hy⟩ : ∃ y, X[k]? = some y := ⟨X[k], by simp [hk]⟩
          rw [hk] at hown hc1 hc2
          obtain ⟨g, cap, rfl, hcap, hcapm⟩ := own_form hown (by omega)
          have hcy := own_cell hown (k := k) (by omega) hk
          have hyy : X[k]'(by omega) = y := by
            have := List.getElem?_eq_getElem (l := X) (i := k) (by omega)
            rw [this] at hy; exact Option.some.inj hy
          rw [hyy] at hcy
          by_cases he : y = -x
          · rw [Word.step_back hk (by rw [hy, he])] at hst
            have Hst := Lib.hid hst; clear hst
            have hyl : -8 ≤ y ∧ y ≤ 8 := by omega
            have Hown := Lib.hid hown; clear hown
            clear hyy hy
            have hk' := Lib.hid hk; clear hk
            unfold maxLen at hcapm
            subst he
            go_wp2
            go_roundw
            case rel =>
              refine ⟨i + 1, by omega, by go_num, hb, ?_⟩
              rw [HY.out, Hst.out, ← intCells_take, List.length_take, hk'.out, Nat.min_eq_left (by omega)]
              exact own_take Hown.out (by omega)
            case measure => simp [intOf]; omega
          · rw [Word.step_on hk hy he] at hst
            have Hst := Lib.hid hst; clear hst
            clear hyy hy
            have hk' := Lib.hid hk; clear hk
            go_wp2_with (at_builtin; refine append_one rfl (.tmp 33) (.tmp 35) 42 rfl N 3 i0 _ 8 Try.underlying42 Hi0.out Hz0.out Hz1.out Hz2.out (by rfl) _ _ _ rfl hown (by rfl) _ rfl hc1 hc2 hNle ?_; intro v1 w1 hown1 hg1 _)
            go_roundw
            case rel =>
              refine ⟨i + 1, by omega, by go_num, Below.grown (hb.alloc hNle _) hg1 (by simp; omega) (fun k hk => (hown.lt k hk).1), ?_⟩
              rw [HY.out, Hst.out, ← intCells_snoc, List.length_append, hk'.out]; exact hown1
            case measure => simp [intOf]; omega
      · obtain rfl : i = l.length := by omega
        rw [List.take_of_length_le (Nat.le_refl _)] at hown
        have Hown := Lib.hid hown; clear hown
        go_wp2
        go_ret
        rw [show Word.reduce l = Word.red l from if_pos HW.out]
        exact own_gives (by rw [HN.out]; exact Hown.out) rfl (by rw [HN.out]; exact hb)
  · rw [decide_eq_false hW] at hcW
    have Hcw := Lib.hid hcW; clear hcW
    have HW := Lib.hid hW; clear hW
    go_enter Try.func120, Try.ntmps120
    go_wp2_with fail
    refine Hcw.out.mono ?_
    rintro e w1 ⟨rfl, hb1⟩
    go_wp2
    go_ret
    rw [show Word.reduce l = [] from if_neg HW.out]
    exact Gives.none hb1
end Go.Proofs.Ytfaagbmaekoogaa
namespace Go.Proofs.Ytfaagbmaekoogaa
open Go.RowKit


set_option maxRecDepth 10000 in
set_option maxHeartbeats 400000 in
theorem spec_l2Reduce (a : Option Addr) (c : Nat) (l : List Int) (w : World) (ha : RowAt w a (intCells l)) (hl : l.length ≤ 1000) (hL : ∀ x ∈ l, Word.Letter x) :
    Calls Try.prog 117 #[.slice a l.length c] w fun e w' => Gives w (Word.red l) e w' := by
  have HL := Lib.hid hL; clear hL
  obtain ⟨i0, hi0, hz0, hz1, hz2⟩ := info_int_parts
  have Hinfo := Lib.hid (show Try.prog.info? 3 = some i0 ∧ i0.zero = some (.int .i64 0) ∧ i0.size = 1 ∧ i0.bytes = 8 from ⟨hi0, hz0, hz1, hz2⟩)
  clear hi0 hz0 hz1 hz2
  generalize hN : w.heap.size = N at *
  have HN := Lib.hid hN
  go_enter Try.func117, Try.ntmps117
  go_wp2
  clear hN
  go_loopw [3, 4] (fun ov iv wr => ∃ i : Nat, i ≤ l.length ∧ iv = .int .i64 i ∧ Below N w wr ∧ wr.ownsRow N 3 1 ov (Word.red (l.take i)).length (intCells (Word.red (l.take i)))) (fun _ iv _ => l.length - (intOf iv).toNat)
  case atStart => exact ⟨0, by omega, rfl, by have h := (Below.refl w.heap.size w).alloc (Nat.le_refl _) (.cells #[] 3); rw [HN.out] at h; exact h, by have h := own_made HN.out; rw [HN.out] at h; exact h⟩
  case round =>
    obtain ⟨i, hi, rfl, hb, hown⟩ := hrel
    by_cases hlt : i < l.length
    · have ha' : RowAt wr a (intCells l) := ha.below (by rw [HN.out]; exact hb)
      obtain ⟨b, o, rfl, hbw0, hcell⟩ := intCells_at ha' hlt
      have hLx := HL.out l[i] (List.getElem_mem hlt)
      obtain ⟨hx0, hx1, hx2⟩ := hLx
      have hst := Word.red_take hlt
      have hlen := Word.red_len (l.take i)
      rw [List.length_take] at hlen
      have hNle : N ≤ wr.heap.size := by have := hb.size; rw [HN.out] at this; exact this
      generalize hx : l[i] = x at *
      generalize hX : Word.red (l.take i) = X at *
      generalize hY : Word.red (l.take (i + 1)) = Y at *
      have HY := Lib.hid hY; have HX := Lib.hid hX; have Hx := Lib.hid hx
      clear hx hX hY
      obtain ⟨hi0, hz0, hz1, hz2⟩ := Hinfo.out
      have Hi0 := Lib.hid hi0; have Hz0 := Lib.hid hz0; have Hz1 := Lib.hid hz1; have Hz2 := Lib.hid hz2
      clear hi0 hz0 hz1 hz2
      have hc1 : X.length + 1 ≤ maxLen := by unfold maxLen; omega
      have hc2 : (X.length + 1) * 8 ≤ 140737488355328 := by omega
      have h0i : (0 : Int) ≤ (i : Int) := by omega
      have hil : (i : Int) < (l.length : Int) := by omega
      cases hk : X.length with
      | zero =>
        rw [Word.step_first hk] at hst
        have Hst := Lib.hid hst; clear hst
        rw [hk] at hown hc1 hc2
        have hk' := Lib.hid hk; clear hk
        obtain ⟨av, cv, rfl⟩ := own_len hown
        go_wp2
        go_quiet (fail)
        all_goals have hown' := own_drewN hown
        all_goals go_wp2_with (at_builtin; refine append_one rfl (.tmp 34) (.tmp 39) 42 rfl N 3 i0 _ 8 Try.underlying42 Hi0.out Hz0.out Hz1.out Hz2.out (by rfl) _ _ _ rfl (hown' _) (by rfl) _ rfl hc1 hc2 hNle ?_; intro v1 w1 hown1 hg1 _)
        all_goals
          go_roundw
          case rel =>
            refine ⟨i + 1, by omega, by go_num, Below.grown ((below_drewN hb _).alloc hNle _) hg1 (by simp; omega) (fun k hk => (hown.lt k hk).1), ?_⟩
            rw [HY.out, Hst.out, ← intCells_snoc, List.length_append, hk'.out]; exact hown1
          case measure => simp [intOf]; omega
      | succ k =>
        obtain ⟨y, hy⟩ : ∃ y, X[k]? = some y := ⟨X[k], by simp [hk]⟩
        rw [hk] at hown hc1 hc2
        obtain ⟨g, cap, rfl, hcap, hcapm⟩ := own_form hown (by omega)
        have hcy := own_cell hown (k := k) (by omega) hk
        have hyy : X[k]'(by omega) = y := by
          have := List.getElem?_eq_getElem (l := X) (i := k) (by omega)
          rw [this] at hy; exact Option.some.inj hy
        rw [hyy] at hcy
        have h0k : (0 : Int) ≤ (k : Int) := by omega
        have hkk : (k : Int) < (k : Int) + 1 := by omega
        by_cases he : y = -x
        · rw [Word.step_back hk (by rw [hy, he])] at hst
          have Hst := Lib.hid hst; clear hst
          have hyl : -8 ≤ y ∧ y ≤ 8 := by omega
          have Hown := Lib.hid hown; clear hown
          clear hyy hy
          have hk' := Lib.hid hk; clear hk
          unfold maxLen at hcapm
          subst he
          go_wp2
          go_quiet (fail)
          all_goals go_wp2
          all_goals
            go_roundw
            case rel =>
              refine ⟨i + 1, by omega, by go_num, below_drewN hb _, ?_⟩
              rw [HY.out, Hst.out, ← intCells_take, List.length_take, hk'.out, Nat.min_eq_left (by omega)]
              exact own_take Hown.out (by omega)
            case measure => simp [intOf]; omega
        · rw [Word.step_on hk hy he] at hst
          have Hst := Lib.hid hst; clear hst
          clear hyy hy
          have hk' := Lib.hid hk; clear hk
          go_wp2
          go_quiet (fail)
          all_goals have hown' := own_drewN hown
          all_goals go_wp2_with (at_builtin; refine append_one rfl (.tmp 34) (.tmp 39) 42 rfl N 3 i0 _ 8 Try.underlying42 Hi0.out Hz0.out Hz1.out Hz2.out (by rfl) _ _ _ rfl (hown' _) (by rfl) _ rfl hc1 hc2 hNle ?_; intro v1 w1 hown1 hg1 _)
          all_goals
            go_roundw
            case rel =>
              refine ⟨i + 1, by omega, by go_num, Below.grown ((below_drewN hb _).alloc hNle _) hg1 (by simp; omega) (fun k hk => (hown.lt k hk).1), ?_⟩
              rw [HY.out, Hst.out, ← intCells_snoc, List.length_append, hk'.out]; exact hown1
            case measure => simp [intOf]; omega
    · obtain rfl : i = l.length := by omega
      rw [List.take_of_length_le (Nat.le_refl _)] at hown
      have Hown := Lib.hid hown; clear hown
      go_wp2
      go_ret
      exact own_gives (by rw [HN.out]; exact Hown.out) rfl (by rw [HN.out]; exact hb)

set_option maxRecDepth 10000 in
set_option maxHeartbeats 400000 in
theorem spec_ReduceWord (a : Option Addr) (c : Nat) (l : List Int) (w : World) (ha : RowAt w a (intCells l)) (hl : l.length ≤ 1048576) :
    Calls Try.prog 45 #[.slice a l.length c] w fun e w' => Gives w (Word.reduce l) e w' := by
  have hcW := spec_IsWord a c l w ha hl
  by_cases hW : Word.IsW l
  · rw [decide_eq_true hW] at hcW
    have Hcw := Lib.hid hcW; clear hcW
    have HW := Lib.hid hW; clear hW
    go_enter Try.func45, Try.ntmps45
    go_wp2_with fail
    refine Hcw.out.mono ?_
    rintro e w1 ⟨rfl, hb1⟩
    go_wp2_with fail
    refine (spec_l2Reduce a c l w1 (ha.below hb1) (by have := HW.out.2; omega) HW.out.1).mono ?_
    rintro e w2 hg
    have Hg := Lib.hid (hg.later hb1)
    obtain ⟨a', c', rfl, _, _, _, _⟩ := hg
    go_wp2
    go_ret
    rw [show Word.reduce l = Word.red l from if_pos HW.out]
    exact Hg.out
  · rw [decide_eq_false hW] at hcW
    have Hcw := Lib.hid hcW; clear hcW
    have HW := Lib.hid hW; clear hW
    go_enter Try.func45, Try.ntmps45
    go_wp2_with fail
    refine Hcw.out.mono ?_
    rintro e w1 ⟨rfl, hb1⟩
    go_wp2
    go_ret
    rw [show Word.reduce l = [] from if_neg HW.out]
    exact own_gives (by exact own_mono (own_made (w := w1) rfl) hb1.size) rfl (hb1.alloc hb1.size _)
end Go.Proofs.Ytfaagbmaekoogaa
namespace Go.Proofs.Ytfaagbmaekoogaa
open Go.RowKit

/-- append of a row to a row of the call's own, as a step of a region that draws. -/
theorem step_append_row {P : Program} {ops : Array Oper} {o : Oper} {a : Act} {W : World} {K : Act → World → Prop} {Q : Exit → Act → World → Prop} {E : Prop} (hgd : o.guard = none) (s x : Operand) (t : TypeId)
    (ho : o.op = .call { callee := .builtin .append, args := #[s, x], argTypes := #[t, t] })
    (base : Nat) (e : TypeId) (i : TypeInfo) (z : Value) (bytes : Nat) (ht : P.underlying t = some (.slice e)) (hi : P.info? e = some i) (hz : i.zero = some z)
    (hsize : i.size = 1) (hby : i.bytes = bytes) (hzs : z.cells.size = 1)
    (v : Value) (n : Nat) (xs : List Value) (hs : a.eval s = v) (hown : W.ownsRow base e 1 v n xs)
    (ad : Option Addr) (m c : Nat) (cs : List Value) (hx : a.eval x = .slice ad m c) (hr : RowAt W ad cs) (hm : cs.length = m) (hu : ∀ u ∈ cs, u.oneCell' = true)
    (h63 : n + m ≤ maxLen) (hbytes : (n + m) * bytes ≤ 140737488355328) (hbase : base ≤ W.heap.size)
    (h : ∀ v' w', w'.ownsRow base e 1 v' (n + m) (xs ++ cs) → W.grownBy w' v.ownBlock → K (a.put o.dst v') w') :
    if Region.wanted o (yielded ops a.tmps) = true then Oper.wp P o a W K Q else E := by
  have hw : Region.wanted o (yielded ops a.tmps) = true := by simp [Region.wanted, hgd]
  rw [if_pos hw]
  rcases hr with rfl | ⟨b, off, rfl, hlt, hc⟩
  · obtain rfl : m = 0 := hm.symm
    have hv : ∃ bo cap, v = .slice bo n cap ∧ n ≤ cap := by
      obtain ⟨_, ⟨h1, rfl⟩ | ⟨g, cap, cur, h1, _, _, hle, _⟩⟩ := hown
      · exact ⟨none, 0, h1, Nat.le_refl _⟩
      · exact ⟨_, cap, h1, hle⟩
    obtain ⟨bo, cap, rfl, hle⟩ := hv
    have hsrc : Src P i.size t (.slice ad 0 c) 0 [] W := by
      cases ad with
      | none => exact Src.ofNil W ht c
      | some ad => exact Src.ofSlice W ht ad 0 c [] (by simp) (fun j u hj => by simp at hj) (fun _ h => by cases h)
    refine Lib.wp_append_run_sl W s x t ho _ _ hs hx (run_append_nothing W t t o.type e i ht hi bo n cap hle _ hsrc) (h _ _ ?_ (World.grownBy.refl _ _))
    simpa using hown
  · exact wp_append_own W s x t ho base e i z 1 bytes ht hi hz hsize hby hzs (by decide) v n xs hs hown ⟨b, off, none⟩ m c cs hx (by rw [hm, Nat.mul_one])
      (fun j u hj => by rw [show (⟨b, off, none⟩ : Addr).add j = ⟨b, off + j, none⟩ from by unfold Addr.add; split <;> simp_all]; exact hc j u hj) hu h63 hbytes hbase (fun v' w' h1 h2 _ => h v' w' h1 h2)

end Go.Proofs.Ytfaagbmaekoogaa
namespace Go.Proofs.Ytfaagbmaekoogaa
open Go.RowKit

theorem wpList_append_runs {P : Program} {ops : Array Oper} {rest : List Oper} {o : Oper} {a : Act} {Q : Exit → Act → World → Prop} {w : World} (hgd : o.guard = none) (s x : Operand) (t tn : TypeId)
    (ho : o.op = .call { callee := .builtin .append, args := #[s, x], argTypes := #[t, tn] }) (v u : Value) (hs : a.eval s = v) (hx : a.eval x = u) {v' : Value} {w' : World}
    (hr : (Builtin.append_ #[t, tn] o.type #[v, u]).run P w = .ok v' w') (h : wpList P ops Q rest (a.put o.dst v') w') : wpList P ops Q (o :: rest) a w :=
  wpList_plain hgd fun _ hK => by
    unfold Oper.wp execOp
    simp only [ho, resolve, invoke, builtin, Sem.run_bind, Sem.run_pure, Result.andThen_ok, List.map_toArray, List.map_cons, List.map_nil, hs, hx, hr]
    exact hK _ _ h
theorem zeroCells_one (n : Nat) : (Builtin.zeroCells (Value.int .i64 0).cells n).size = n := by
  show (Builtin.zeroCells #[Value.int .i64 0] n).size = n
  unfold Builtin.zeroCells
  simp
/-- append(nil, n zeros). -/
theorem grown_nil (n : Nat) (h0 : 0 < n) (hn : n ≤ 4194304) (w : World) : ∃ cap cs, (Builtin.append_ #[42, 3] 42 #[.slice none 0 0, .int .i64 n]).run Try.prog w = .ok (.slice (some ⟨w.heap.size, 0, none⟩) n cap) (w.drew.alloc (.cells cs 3)) ∧ n ≤ cap ∧ cap ≤ maxLen ∧ cs.size = cap := by
  obtain ⟨i0, hi, hz0, hz1, hz2⟩ := info_int_parts
  have h := Lib.run_append_nil_zeros (P := Try.prog) w 42 3 42 3 i0 _ .i64 .i64 Try.underlying42 Try.underlying3 hi hz0 n h0 (by rw [hz1]; decide) (by omega) (by rw [hz2]; omega)
  refine ⟨_, _, h, grownCap_ge _ _ _ _, grownCap_le_maxLen _ _ _ _ (by unfold maxLen; omega), ?_⟩
  have := grownCap_ge w n 0 3
  rw [Array.size_append, zeroCells_one, zeroCells_one]; omega

set_option maxRecDepth 10000 in
set_option maxHeartbeats 400000 in
theorem slices_Grow (n : Nat) (hn : n ≤ 4194304) (w : World) :
    Calls Try.prog 140 #[.slice none 0 0, .int .i64 n] w fun e w' => (∃ v, e = .returned v ∧ w'.ownsRow w.heap.size 3 1 v 0 (intCells [])) ∧ Below w.heap.size w w' := by
  by_cases h0 : n = 0
  · subst h0
    go_enter Try.func140, Try.ntmps140
    go_wp2
    go_ret
    exact ⟨⟨_, rfl, World.ownsRow_nil _ _ _ _⟩, Below.refl _ _⟩
  · have hpos : 0 < n := by omega
    obtain ⟨cap, cs, hg, hc1, hc2, hc3⟩ := grown_nil n hpos hn w
    have Hc1 := Lib.hid hc1; have Hc2 := Lib.hid hc2; have Hc3 := Lib.hid hc3
    have hc2' : cap ≤ 9223372036854775807 := by unfold maxLen at hc2; omega
    clear hc1 hc2 hc3
    go_enter Try.func140, Try.ntmps140
    go_wp2_with (at_builtin; refine wpList_append_runs rfl (.tmp 20) (.tmp 21) 42 3 rfl _ _ rfl rfl hg ?_)
    go_ret
    have hb : Below w.heap.size w (w.drew.alloc (.cells cs 3)) := Below.alloc (below_drewN (Below.refl _ w) 1) (Nat.le_refl _) _
    exact ⟨⟨_, rfl, ⟨by simp [intCells], Or.inr ⟨w.heap.size, cap, cs, rfl, Nat.le_refl _, heap_alloc_new w.drew _, Nat.zero_le _, Hc2.out, by rw [Hc3.out, Nat.mul_one], by simp [intCells]⟩⟩⟩, hb⟩

/-- The parts of a Concat. -/
abbrev Part := Option Addr × Nat × List Int
def Part.cell (p : Part) : Value := .slice p.1 p.2.2.length p.2.1
def Part.all (ps : List Part) : List Int := (ps.map fun p => p.2.2).flatten
def Part.len (ps : List Part) : Nat := (Part.all ps).length
theorem Part.take_all {ps : List Part} {i : Nat} (h : i < ps.length) : Part.all (ps.take (i + 1)) = Part.all (ps.take i) ++ ps[i].2.2 := by
  unfold Part.all
  rw [List.take_succ_eq_append_getElem h, List.map_append, List.flatten_append]; simp
theorem Part.take_len {ps : List Part} {i : Nat} (h : i < ps.length) : Part.len (ps.take (i + 1)) = Part.len (ps.take i) + ps[i].2.2.length := by
  unfold Part.len; rw [Part.take_all h, List.length_append]
theorem Part.le_len (ps : List Part) (i : Nat) : Part.len (ps.take i) ≤ Part.len ps := by
  unfold Part.len Part.all
  conv => rhs; rw [← List.take_append_drop i ps, List.map_append, List.flatten_append, List.length_append]
  omega
theorem parts_at {w : World} {a : Option Addr} {ps : List Part} (h : RowAt w a (ps.map Part.cell)) {i : Nat} (hi : i < ps.length) : ∃ b o, a = some ⟨b, o, none⟩ ∧ b < w.heap.size ∧ w.cell? ⟨b, o + i, none⟩ = some (.slice ps[i].1 ps[i].2.2.length ps[i].2.1) := by
  obtain ⟨b, o, rfl, hb, hc⟩ := h.at (i := i) (by simpa using hi)
  exact ⟨b, o, rfl, hb, hc i _ (by simp [hi, Part.cell])⟩

set_option maxRecDepth 10000 in
set_option maxHeartbeats 400000 in
theorem slices_Concat (a : Option Addr) (c : Nat) (ps : List Part) (w : World) (ha : RowAt w a (ps.map Part.cell)) (hps : ∀ i (h : i < ps.length), RowAt w ps[i].1 (intCells ps[i].2.2)) (hn : ps.length ≤ 1000) (hl : Part.len ps ≤ 4194304) :
    Calls Try.prog 81 #[.slice a ps.length c] w fun e w' => Gives w (Part.all ps) e w' := by
  obtain ⟨i0, hi0, hz0, hz1, hz2⟩ := info_int_parts
  have Hi0 := Lib.hid hi0; have Hz0 := Lib.hid hz0; have Hz1 := Lib.hid hz1; have Hz2 := Lib.hid hz2
  clear hi0 hz0 hz1 hz2
  have Hps := Lib.hid hps; clear hps
  generalize hN : w.heap.size = N
  have HN := Lib.hid hN; clear hN
  go_enter Try.func81, Try.ntmps81
  go_wp2
  go_loopw [3, 5, 11] (fun sv _ iv wr => w = wr ∧ ∃ i : Nat, i ≤ ps.length ∧ iv = .int .i64 i ∧ sv = .int .i64 (Part.len (ps.take i))) (fun _ _ iv _ => ps.length - (intOf iv).toNat)
  case atStart => exact ⟨rfl, 0, by omega, rfl, rfl⟩
  case round =>
    obtain ⟨rfl, i, hi, rfl, rfl⟩ := hrel
    by_cases hlt : i < ps.length
    · obtain ⟨b, o, rfl, hbw, hcell⟩ := parts_at ha hlt
      have hst := Part.take_len hlt
      have hle := Part.le_len ps (i + 1)
      generalize ps[i].2.2.length = m at *
      generalize hX : Part.len (ps.take i) = X at *
      have Hst := Lib.hid hst; have HX := Lib.hid hX
      have hle2 : X + m ≤ 4194304 := by omega
      clear hst hX hle
      go_wp2
      go_roundw
      case rel => exact ⟨by first | rfl | trivial, i + 1, by omega, by go_num, by rw [Hst.out]; simp⟩
      case measure => simp [intOf]; omega
    · obtain rfl : i = ps.length := by omega
      rw [List.take_of_length_le (Nat.le_refl _)]
      have Hg := Lib.hid (slices_Grow (Part.len ps) hl w)
      generalize hX : Part.len ps = X at *
      have HX := Lib.hid hX; clear hX
      go_wp2_with fail
      refine Hg.out.mono ?_
      rintro e w1 ⟨⟨v, rfl, hown⟩, hb1⟩
      rw [HN.out] at hown hb1
      go_wp2
      go_loopw [6, 8, 27] (fun ov _ iv wr => ∃ i : Nat, i ≤ ps.length ∧ iv = .int .i64 i ∧ Below N w wr ∧ wr.ownsRow N 3 1 ov (Part.len (ps.take i)) (intCells (Part.all (ps.take i)))) (fun _ _ iv _ => ps.length - (intOf iv).toNat)
      case atStart => exact ⟨0, by omega, rfl, hb1, hown⟩
      case round =>
        obtain ⟨i, hi, rfl, hb, hown⟩ := hrel
        by_cases hlt : i < ps.length
        · have hbN : Below w.heap.size w wr := by rw [HN.out]; exact hb
          obtain ⟨b, o, rfl, hbw, hcell⟩ := parts_at (ha.below hbN) hlt
          have hrow := (Hps.out i hlt).below hbN
          have hst := Part.take_len hlt
          have hsa := Part.take_all hlt
          have hle := Part.le_len ps (i + 1)
          have hNle : N ≤ wr.heap.size := by have := hb.size; rw [HN.out] at this; exact this
          generalize hp : ps[i] = p at *
          obtain ⟨pa, pc, pl⟩ := p
          simp only at hst hsa hcell hrow
          have hle2 : Part.len (ps.take i) + pl.length ≤ 4194304 := by have := HX.out; omega
          have hc1 : Part.len (ps.take i) + pl.length ≤ maxLen := by unfold maxLen; omega
          have hc2 : (Part.len (ps.take i) + pl.length) * 8 ≤ 140737488355328 := by omega
          generalize hXi : Part.len (ps.take i) = Xi at *
          generalize hAi : Part.all (ps.take i) = Ai at *
          have Hst := Lib.hid hst; have Hsa := Lib.hid hsa; have Hrow := Lib.hid hrow
          clear hst hsa hrow hXi hAi hle hp
          obtain ⟨av, cv, rfl⟩ := own_len hown
          go_wp2_with (at_builtin; refine append_row rfl (.tmp 31) (.tmp 32) 42 rfl N 3 i0 _ 8 Try.underlying42 Hi0.out Hz0.out Hz1.out Hz2.out (by rfl) _ _ _ rfl hown _ _ _ _ rfl Hrow.out (intCells_len _) (intCells_one _) hc1 hc2 hNle ?_; intro v1 w1 hown1 hg1)
          go_roundw
          case rel =>
            refine ⟨i + 1, by omega, by go_num, Below.grown hb hg1 hNle (fun k hk => (hown.lt k hk).1), ?_⟩
            rw [Hst.out, Hsa.out, show intCells (Ai ++ pl) = intCells Ai ++ intCells pl from by simp [intCells]]; exact hown1
          case measure => simp [intOf]; omega
        · obtain rfl : i = ps.length := by omega
          rw [List.take_of_length_le (Nat.le_refl _)] at hown
          have Hown := Lib.hid hown
          obtain ⟨av, cv, rfl⟩ := own_len hown
          clear hown
          go_wp2
          go_ret
          exact own_gives (by rw [HN.out]; exact Hown.out) rfl (by rw [HN.out]; exact hb)

end Go.Proofs.Ytfaagbmaekoogaa
namespace Go.Proofs.Ytfaagbmaekoogaa
open Go.RowKit

theorem row_drop {w : World} {b o m : Nat} {l : List Int} (h : RowAt w (some ⟨b, o, none⟩) (intCells l)) : RowAt w (some ⟨b, o + m, none⟩) (intCells (l.drop m)) := by
  rcases h with h | ⟨b', o', e, hlt, hc⟩
  · left
    have : l = [] := by simpa [intCells] using h
    rw [this]; simp [intCells]
  · cases e
    refine Or.inr ⟨b, o + m, rfl, hlt, fun i v hv => ?_⟩
    rw [Nat.add_assoc]
    refine hc (m + i) v ?_
    simpa [intCells, List.getElem?_drop] using hv
theorem row_take {w : World} {a : Option Addr} {m : Nat} {l : List Int} (h : RowAt w a (intCells l)) : RowAt w a (intCells (l.take m)) := by
  rcases h with h | ⟨b', o', e, hlt, hc⟩
  · left
    have : l = [] := by simpa [intCells] using h
    rw [this]; simp [intCells]
  · refine Or.inr ⟨b', o', e, hlt, fun i v hv => hc i v ?_⟩
    simp only [intCells, List.getElem?_map, List.getElem?_take] at hv ⊢
    split at hv
    · exact hv
    · cases hv
theorem row_some {w : World} {a : Option Addr} {l : List Int} (h : RowAt w a (intCells l)) (hn : 0 < l.length) : ∃ b o, a = some ⟨b, o, none⟩ := by
  obtain ⟨b, o, h, _⟩ := h.at (i := 0) (by rw [intCells_len]; exact hn)
  exact ⟨b, o, h⟩
/-- Where a turn begins. -/
theorem turn_mod {n : Nat} (hn : 0 < n) (k : Int) : ∃ m : Nat, m < n ∧ k % (n : Int) = (m : Int) ∧ ((0 ≤ k.tmod (n : Int) ∧ k.tmod (n : Int) = m) ∨ (k.tmod (n : Int) < 0 ∧ k.tmod (n : Int) = (m : Int) - n)) := by
  have h0 := Int.emod_nonneg k (show (n : Int) ≠ 0 by omega)
  have h1 := Int.emod_lt_of_pos k (show (0 : Int) < n by omega)
  refine ⟨(k % (n : Int)).toNat, by omega, by omega, ?_⟩
  rcases (show k.tmod (n : Int) < 0 ∨ 0 ≤ k.tmod (n : Int) by omega) with h | h
  · right
    refine ⟨h, ?_⟩
    have h2 : k.tmod (n : Int) % (n : Int) = k % (n : Int) := by
      have := Int.tmod_add_mul_tdiv k (n : Int)
      conv => rhs; rw [← this]
      rw [Int.add_mul_emod_self_left]
    have h3 := Int.tmod_lt_of_pos k (show (0 : Int) < n by omega)
    have h4 : -(n : Int) < k.tmod n := by
      have := Int.lt_tmod_of_pos k (show (0 : Int) < n by omega); exact this
    have h5 : (k.tmod (n : Int) + n) % (n : Int) = k.tmod (n : Int) + n := Int.emod_eq_of_lt (by omega) (by omega)
    rw [Int.add_emod_right] at h5
    omega
  · left
    refine ⟨h, ?_⟩
    have h2 : k.tmod (n : Int) % (n : Int) = k % (n : Int) := by
      have := Int.tmod_add_mul_tdiv k (n : Int)
      conv => rhs; rw [← this]
      rw [Int.add_mul_emod_self_left]
    have h3 := Int.tmod_lt_of_pos k (show (0 : Int) < n by omega)
    have h5 : k.tmod (n : Int) % (n : Int) = k.tmod (n : Int) := Int.emod_eq_of_lt h h3
    omega
theorem turn_nil (k : Int) : Word.turn [] k = [] := by simp [Word.turn]
theorem own_made1 (w : World) : ((w.drewN 1).alloc (.cells #[] 3)).ownsRow w.heap.size 3 1 (.slice (some ⟨w.heap.size, 0, none⟩) 0 0) 0 (intCells []) :=
  World.ownsRow_made (base := w.heap.size) (e := 3) (size := 1) (w.drewN 1) #[] 0 (Nat.le_refl _) (by unfold maxLen; omega) (by rfl)
theorem below_made1 (w : World) : Below w.heap.size w ((w.drewN 1).alloc (.cells #[] 3)) := Below.alloc (below_drewN (Below.refl _ w) 1) (Nat.le_refl _) _
theorem turn_at {l : List Int} {k : Int} {m : Nat} (h : k % (l.length : Int) = (m : Int)) : Word.turn l k = l.drop m ++ l.take m := by
  unfold Word.turn; rw [h]; rfl

set_option maxRecDepth 10000 in
set_option maxHeartbeats 400000 in
theorem spec_l2Turn (a : Option Addr) (c : Nat) (l : List Int) (k : Int) (w : World) (ha : RowAt w a (intCells l)) (hl : l.length ≤ 1000) (hc : l.length ≤ c) (hk0 : -9223372036854775808 ≤ k) (hk1 : k ≤ 9223372036854775807) :
    Calls Try.prog 98 #[.slice a l.length c, .int .i64 k] w fun e w' => Gives w (Word.turn l k) e w' := by
  by_cases hn : l.length = 0
  · obtain rfl := List.eq_nil_of_length_eq_zero hn
    go_enter Try.func98, Try.ntmps98
    go_wp2
    go_ret
    rw [turn_nil]
    exact own_gives (by exact own_made (w := w) rfl) rfl ((Below.refl _ _).alloc (Nat.le_refl _) _)
  · have hn1 : 0 < l.length := by omega
    have hd0 : ((l.length : Int) == 0) = false := by rw [beq_eq_false_iff_ne]; omega
    obtain ⟨b, o, rfl⟩ := row_some ha hn1
    obtain ⟨m, hm, hmod, hsign⟩ := turn_mod hn1 k
    have Hat := Lib.hid (turn_at hmod)
    have Hdrop := Lib.hid (row_drop (m := m) ha)
    have Htake := Lib.hid (row_take (m := m) ha)
    have Hdl : Hid ((intCells (l.drop m)).length = l.length - m) := Lib.hid (by rw [intCells_len, List.length_drop])
    have Htl : Hid ((intCells (l.take m)).length = m) := Lib.hid (by rw [intCells_len, List.length_take]; omega)
    obtain ⟨i0, hi0, hz0, hz1, hz2⟩ := info_int_parts
    have Hi0 := Lib.hid hi0; have Hz0 := Lib.hid hz0; have Hz1 := Lib.hid hz1; have Hz2 := Lib.hid hz2
    clear hi0 hz0 hz1 hz2 hmod ha
    have hcm : ¬ c = m := by omega
    have hml : m ≤ l.length := by omega
    have hmc : m ≤ c := by omega
    generalize hr : k.tmod (l.length : Int) = r at *
    have Hr := Lib.hid hr
    have hc1 : 0 + (l.length - m) ≤ maxLen := by unfold maxLen; omega
    have hc2 : (0 + (l.length - m)) * 8 ≤ 140737488355328 := by omega
    have hc3 : l.length - m + m ≤ maxLen := by unfold maxLen; omega
    have hc4 : (l.length - m + m) * 8 ≤ 140737488355328 := by omega
    rcases hsign with ⟨hs0, hs1⟩ | ⟨hs0, hs1⟩
    · subst hs1
      go_enter Try.func98, Try.ntmps98
      go_wp2
      go_region_law (first
        | (refine step_append_row rfl (.tmp 19) (.tmp 22) 42 rfl w.heap.size 3 i0 _ 8 Try.underlying42 Hi0.out Hz0.out Hz1.out Hz2.out (by rfl) _ 0 (intCells []) (by rfl) (own_made1 w) _ (l.length - m) _ (intCells (l.drop m)) (by rfl) (Hdrop.out.below (below_made1 w)) Hdl.out (intCells_one _) hc1 hc2 (by simp) ?_; intro v1 w1 hown1 hg1; rw [Nat.zero_add] at hown1; have hb1 := Below.grown (below_made1 w) hg1 (by simp) (fun k hk => by injection hk with hk; exact Nat.le_of_eq hk); obtain ⟨av1, cv1, rfl⟩ := own_len hown1)
        | (refine step_append_row rfl (.tmp 23) (.tmp 26) 42 rfl w.heap.size 3 i0 _ 8 Try.underlying42 Hi0.out Hz0.out Hz1.out Hz2.out (by rfl) _ _ _ (by rfl) hown1 _ m _ (intCells (l.take m)) (by rfl) (Htake.out.below hb1) Htl.out (intCells_one _) hc3 hc4 hb1.size ?_; intro v2 w2 hown2 hg2; rw [Nat.sub_add_cancel hml] at hown2; have hb2 := Below.grown hb1 hg2 hb1.size (fun k hk => (hown1.lt k hk).1); obtain ⟨av2, cv2, rfl⟩ := own_len hown2))
      all_goals
        go_wp2
        go_ret
        rw [Hat.out]
        refine own_gives (n := l.length) ?_ (by rw [List.length_append, List.length_drop, List.length_take]; omega) hb2
        rw [show intCells (l.drop m ++ l.take m) = intCells [] ++ intCells (l.drop m) ++ intCells (l.take m) from by simp [intCells]]
        exact hown2
    · subst hs1
      have hmn : (m : Int) - (l.length : Int) + (l.length : Int) = (m : Int) := by omega
      go_enter Try.func98, Try.ntmps98
      go_wp2
      go_region_law (first
        | (refine step_append_row rfl (.tmp 19) (.tmp 22) 42 rfl w.heap.size 3 i0 _ 8 Try.underlying42 Hi0.out Hz0.out Hz1.out Hz2.out (by rfl) _ 0 (intCells []) (by rfl) (own_made1 w) _ (l.length - m) _ (intCells (l.drop m)) (by rfl) (Hdrop.out.below (below_made1 w)) Hdl.out (intCells_one _) hc1 hc2 (by simp) ?_; intro v1 w1 hown1 hg1; rw [Nat.zero_add] at hown1; have hb1 := Below.grown (below_made1 w) hg1 (by simp) (fun k hk => by injection hk with hk; exact Nat.le_of_eq hk); obtain ⟨av1, cv1, rfl⟩ := own_len hown1)
        | (refine step_append_row rfl (.tmp 23) (.tmp 26) 42 rfl w.heap.size 3 i0 _ 8 Try.underlying42 Hi0.out Hz0.out Hz1.out Hz2.out (by rfl) _ _ _ (by rfl) hown1 _ m _ (intCells (l.take m)) (by rfl) (Htake.out.below hb1) Htl.out (intCells_one _) hc3 hc4 hb1.size ?_; intro v2 w2 hown2 hg2; rw [Nat.sub_add_cancel hml] at hown2; have hb2 := Below.grown hb1 hg2 hb1.size (fun k hk => (hown1.lt k hk).1); obtain ⟨av2, cv2, rfl⟩ := own_len hown2))
      all_goals
        go_wp2
        go_ret
        rw [Hat.out]
        refine own_gives (n := l.length) ?_ (by rw [List.length_append, List.length_drop, List.length_take]; omega) hb2
        rw [show intCells (l.drop m ++ l.take m) = intCells [] ++ intCells (l.drop m) ++ intCells (l.take m) from by simp [intCells]]
        exact hown2
theorem turned_not {l : List Int} {k : Int} (h : ¬ Word.IsW l) : Word.turned l k = [] := if_neg h
theorem turned_of {l : List Int} {k : Int} (h : Word.IsW l) : Word.turned l k = Word.turn l k := if_pos h
theorem turned_len (l : List Int) (k : Int) : (Word.turned l k).length ≤ 24 := by
  unfold Word.turned; split
  · rw [Word.turn_len]; rename_i h; exact h.2
  · simp

set_option maxRecDepth 10000 in
set_option maxHeartbeats 400000 in
theorem spec_TurnWord (a : Option Addr) (c : Nat) (l : List Int) (k : Int) (w : World) (ha : RowAt w a (intCells l)) (hl : l.length ≤ 1048576) (hc : l.length ≤ c) (hk0 : -9223372036854775808 ≤ k) (hk1 : k ≤ 9223372036854775807) :
    Calls Try.prog 67 #[.slice a l.length c, .int .i64 k] w fun e w' => Gives w (Word.turned l k) e w' := by
  have hcW := spec_IsWord a c l w ha hl
  by_cases hW : Word.IsW l
  · rw [decide_eq_true hW] at hcW
    have Hcw := Lib.hid hcW; clear hcW
    have HW := Lib.hid hW; clear hW
    go_enter Try.func67, Try.ntmps67
    go_wp2_with fail
    refine Hcw.out.mono ?_
    rintro e w1 ⟨rfl, hb1⟩
    go_wp2_with fail
    refine (spec_l2Turn a c l k w1 (ha.below hb1) (by have := HW.out.2; omega) hc hk0 hk1).mono ?_
    rintro e w2 hg
    have Hg := Lib.hid (hg.later hb1)
    obtain ⟨a', c', rfl, _, _, _, _⟩ := hg
    go_wp2
    go_ret
    rw [turned_of HW.out]
    exact Hg.out
  · rw [decide_eq_false hW] at hcW
    have Hcw := Lib.hid hcW; clear hcW
    have HW := Lib.hid hW; clear hW
    go_enter Try.func67, Try.ntmps67
    go_wp2_with fail
    refine Hcw.out.mono ?_
    rintro e w1 ⟨rfl, hb1⟩
    go_wp2
    go_ret
    rw [turned_not HW.out]
    exact own_gives (by exact own_mono (own_made (w := w1) rfl) hb1.size) rfl (hb1.alloc hb1.size _)

set_option maxRecDepth 10000 in
set_option maxHeartbeats 400000 in
theorem impl_TurnWord (a : Option Addr) (c : Nat) (l : List Int) (k : Int) (w : World) (ha : RowAt w a (intCells l)) (hl : l.length ≤ 1048576) (hc : l.length ≤ c) (hk0 : -9223372036854775808 ≤ k) (hk1 : k ≤ 9223372036854775807) :
    Calls Try.prog 96 #[.slice a l.length c, .int .i64 k] w fun e w' => Gives w (Word.turned l k) e w' := by
  have hcW := impl_IsWord a c l w ha hl
  by_cases hW : Word.IsW l
  · rw [decide_eq_true hW] at hcW
    have Hcw := Lib.hid hcW; clear hcW
    have HW := Lib.hid hW; clear hW
    by_cases hn : l.length = 0
    · obtain rfl := List.eq_nil_of_length_eq_zero hn
      go_enter Try.func96, Try.ntmps96
      go_wp2_with fail
      refine Hcw.out.mono ?_
      rintro e w1 ⟨rfl, hb1⟩
      go_wp2
      go_ret
      rw [turned_of HW.out, turn_nil]
      exact Gives.none hb1
    · have hn1 : 0 < l.length := by omega
      have hl24 := HW.out.2
      have hd0 : ((l.length : Int) == 0) = false := by rw [beq_eq_false_iff_ne]; omega
      obtain ⟨b, o, rfl⟩ := row_some ha hn1
      obtain ⟨m, hm, hmod, hsign⟩ := turn_mod hn1 k
      have Hat := Lib.hid (turn_at hmod)
      have Hdrop := Lib.hid (row_drop (m := m) ha)
      have Htake := Lib.hid (row_take (m := m) ha)
      have Hdl : Hid ((l.drop m).length = l.length - m) := Lib.hid (by rw [List.length_drop])
      have Htl : Hid ((l.take m).length = m) := Lib.hid (by rw [List.length_take]; omega)
      clear hmod ha
      have hcm : ¬ c = m := by omega
      have hml : m ≤ l.length := by omega
      have hmc : m ≤ c := by omega
      have hm0 : (0 : Int) ≤ (m : Int) := by omega
      have hml' : (m : Int) ≤ (l.length : Int) := by omega
      have hmc' : (m : Int) ≤ (c : Int) := by omega
      generalize hr : k.tmod (l.length : Int) = r at *
      have Hr := Lib.hid hr
      have Hps : Hid (∀ W0 : World, Below w.heap.size w W0 → ∀ B : Nat, Calls Try.prog 81 #[.slice (some ⟨W0.heap.size, 0, none⟩) 2 2] (W0.alloc (.cells #[.slice (some ⟨b, o + m, none⟩) (l.length - m) (c - m), .slice (some ⟨b, o, none⟩) m c] 42)) fun e w' => Gives w (Word.turn l k) e w') := Lib.hid (by
        intro W0 hb0 _
        have hb1 : Below w.heap.size w (W0.alloc (.cells #[.slice (some ⟨b, o + m, none⟩) (l.length - m) (c - m), .slice (some ⟨b, o, none⟩) m c] 42)) := hb0.alloc hb0.size _
        have hrow := (Blk.new W0 42 #[.slice (some ⟨b, o + m, none⟩) (l.length - m) (c - m), .slice (some ⟨b, o, none⟩) m c]).row
        have hps : ([(some ⟨b, o + m, none⟩, c - m, l.drop m), (some ⟨b, o, none⟩, c, l.take m)] : List Part).map Part.cell = [.slice (some ⟨b, o + m, none⟩) (l.length - m) (c - m), .slice (some ⟨b, o, none⟩) m c] := by
          simp only [List.map_cons, List.map_nil, Part.cell, Hdl.out, Htl.out]
        refine (slices_Concat (some ⟨W0.heap.size, 0, none⟩) 2 [(some ⟨b, o + m, none⟩, c - m, l.drop m), (some ⟨b, o, none⟩, c, l.take m)] _ (by rw [hps]; exact hrow) ?_ (by simp) ?_).mono ?_
        · intro i hi
          rcases (show i = 0 ∨ i = 1 by simp at hi; omega) with rfl | rfl
          · exact Hdrop.out.below hb1
          · exact Htake.out.below hb1
        · simp [Part.len, Part.all]; omega
        · rintro e w' hg
          have := hg.later hb1
          rw [show Part.all [(some ⟨b, o + m, none⟩, c - m, l.drop m), (some ⟨b, o, none⟩, c, l.take m)] = Word.turn l k from by rw [Hat.out]; simp [Part.all]] at this
          exact this)
      rcases hsign with ⟨hs0, hs1⟩ | ⟨hs0, hs1⟩
      · subst hs1
        go_enter Try.func96, Try.ntmps96
        go_wp2_with fail
        refine Hcw.out.mono ?_
        rintro e w1 ⟨rfl, hb1⟩
        go_wp2
        go_still_tail 6, (by kernel_rfl)
        change wpList _ _ _ _ _ w1.drew
        go_wp2_with fail
        refine (Hps.out w1.drew (below_drewN hb1 1) 0).mono ?_
        rintro e w2 hg
        have Hg := Lib.hid hg
        obtain ⟨a', c', rfl, _, _, _, _⟩ := hg
        go_wp2
        go_ret
        rw [turned_of HW.out]
        exact Hg.out
      · subst hs1
        have hmn : (m : Int) - (l.length : Int) + (l.length : Int) = (m : Int) := by omega
        go_enter Try.func96, Try.ntmps96
        go_wp2_with fail
        refine Hcw.out.mono ?_
        rintro e w1 ⟨rfl, hb1⟩
        go_wp2
        go_still_tail 6, (by kernel_rfl)
        change wpList _ _ _ _ _ w1.drew
        go_wp2_with fail
        refine (Hps.out w1.drew (below_drewN hb1 1) 0).mono ?_
        rintro e w2 hg
        have Hg := Lib.hid hg
        obtain ⟨a', c', rfl, _, _, _, _⟩ := hg
        go_wp2
        go_ret
        rw [turned_of HW.out]
        exact Hg.out
  · rw [decide_eq_false hW] at hcW
    have Hcw := Lib.hid hcW; clear hcW
    have HW := Lib.hid hW; clear hW
    go_enter Try.func96, Try.ntmps96
    go_wp2_with fail
    refine Hcw.out.mono ?_
    rintro e w1 ⟨rfl, hb1⟩
    go_wp2
    go_ret
    rw [turned_not HW.out]
    exact Gives.none hb1
end Go.Proofs.Ytfaagbmaekoogaa
namespace Go.Proofs.Ytfaagbmaekoogaa
open Go.RowKit

/-- What lay below n₀ lies as it lay, and the box Bn holds what it held. -/
def KB (n₀ Bn : Nat) (t : TypeId) (W W' : World) : Prop := Below n₀ W W' ∧ ∀ v, Boxed W Bn t v → Boxed W' Bn t v
theorem KB.refl (n₀ Bn : Nat) (t : TypeId) (W : World) : KB n₀ Bn t W W := ⟨Below.refl _ _, fun _ h => h⟩
theorem KB.t {n₀ Bn : Nat} {t : TypeId} {A B C : World} (h : KB n₀ Bn t A B) (k : KB n₀ Bn t B C) : KB n₀ Bn t A C := ⟨h.1.trans k.1, fun v hv => k.2 v (h.2 v hv)⟩
theorem KB.b {n₀ Bn : Nat} {t : TypeId} {w : World} (hn : n₀ ≤ w.heap.size) (W : World) (l : Nat) (o o' : Obj) (hl : w.heap.size ≤ l) (h : W.heap[l]? = some o) (hc : o.isCells = false) (hw : o.isWalk = false) : KB n₀ Bn t W (W.putObj l o') :=
  ⟨belowK_b hn W l o o' hl h hc hw, fun v hv => hv.kept (grownBy_putObj' W l o') (fun e => by
    cases e
    rw [show W.heap[Bn]? = _ from hv] at h
    cases h; cases hc)⟩
/-- Behind an append to a row of another type, and its store into another box. -/
theorem KB.appended {W w1 : World} {n₀ B Bn : Nat} {tb e : TypeId} {size : Nat} {v v' : Value} {k : Nat} {xs : List Value} {tmp : Obj} (hb : Below n₀ W (w1.setCell ⟨B, 0, none⟩ v')) (hte : tb ≠ e) (hrow : W.ownsRow n₀ e size v k xs) (hgrow : (W.alloc tmp).grownBy w1 v.ownBlock) (hne : Bn ≠ B) : KB n₀ Bn tb W (w1.setCell ⟨B, 0, none⟩ v') :=
  ⟨hb, fun u hu => (((hu.alloc tmp).kept hgrow (hu.not_row hte hrow)).other hne v')⟩
/-- The integers at a, in blocks below n₀. -/
def IntsAt (W : World) (n₀ : Nat) (a : Option Addr) (L : List Int) : Prop := ∀ j (h : j < L.length), ∃ b o, a = some ⟨b, o, none⟩ ∧ b < n₀ ∧ W.cell? ⟨b, o + j, none⟩ = some (.int .i64 L[j])
theorem IntsAt.of {w W : World} {n₀ : Nat} {a : Option Addr} {L : List Int} (h : RowAt w a (intCells L)) (hb : Below w.heap.size w W) (hn : w.heap.size ≤ n₀) : IntsAt W n₀ a L := fun j hj => by
  obtain ⟨b, o, rfl, hlt, hc⟩ := intCells_at h hj
  exact ⟨b, o, rfl, by omega, (hb.cell (p := ⟨b, o + j, none⟩) hlt).trans hc⟩
theorem IntsAt.below {A B : World} {n₀ N : Nat} {a : Option Addr} {L : List Int} (h : IntsAt A n₀ a L) (hb : Below N A B) (hn : n₀ ≤ N) : IntsAt B n₀ a L := fun j hj => by
  obtain ⟨b, o, rfl, hlt, hc⟩ := h j hj
  exact ⟨b, o, rfl, hlt, (hb.cell (p := ⟨b, o + j, none⟩) (by show b < N; omega)).trans hc⟩
end Go.Proofs.Ytfaagbmaekoogaa
namespace Go.Proofs.Ytfaagbmaekoogaa
open Go.RowKit Go.Shelf

attribute [local go_sem] Oper.semAt_some

set_option maxRecDepth 100000 in
set_option maxHeartbeats 2000000 in
/-- The iterator over the letters of the inverse, for every loop body that keeps what lay below n₀. -/
theorem inverse1_in (n : Nat) (hn : 1 ≤ n) (l Bn n₀ : Nat) (a : Option Addr) (c : Nat) (L : List Int) (hL : ∀ x ∈ L, Word.Letter x) (hl24 : L.length ≤ 24) (J Jx : List Int → World → Prop)
    (hY : ∀ pre x W, J pre W → pre.length < L.length → YieldAt Fence.wide (n - 1) Try.prog l #[.int .i64 x] W fun e W' =>
      (e = .returned (.bool true) ∧ J (pre ++ [x]) W' ∧ KB n₀ Bn 42 W W') ∨ (e = .returned (.bool false) ∧ Jx (pre ++ [x]) W'))
    (W : World) (hBn : Boxed W Bn 42 (.slice a L.length c)) (hc : IntsAt W n₀ a L) (h0 : J [] W) :
    CallsIn Fence.wide n Try.prog 159 #[.func (.yield l) #[] #[], .pointer (some ⟨Bn, 0, none⟩)] W fun e W' => (∃ v, e = .returned v) ∧
      ((∃ ys, ys = Word.inv L ∧ J ys W') ∨ (∃ pre, True ∧ Jx pre W')) := by
  refine callsIn_of_wp Try.func159 rfl trivial ?_ rfl
  simp only [Try.ntmps159, List.size_toArray, List.length_cons, List.length_nil, Nat.reduceAdd, Nat.reduceSub, Array.replicate_succ, Array.replicate_zero, List.push_toArray, List.append_toArray, List.nil_append, List.cons_append]
  have Hc := Lib.hid hc
  have HL := Lib.hid hL
  have HY := Lib.hid hY
  have HBn := Lib.hid hBn
  have hcBn := hBn.cell
  clear hc hL hY hBn
  gi_wp2
  gi_loopw [3] (fun i wr => ∃ r : Nat, r ≤ L.length ∧ i = .int .i64 ((r : Int) - 1) ∧ J (Word.inv (L.drop r)) wr ∧ KB n₀ Bn 42 W wr) (fun i _ => (intOf i + 1).toNat)
  case atStart => exact ⟨L.length, Nat.le_refl _, rfl, by rw [List.drop_length]; exact h0, KB.refl _ _ _ _⟩
  case round =>
    obtain ⟨r, hr, rfl, hJs, hnx⟩ := hrel
    cases r with
    | zero =>
      gi_wp2
      go_end0
      exact ⟨⟨_, rfl⟩, .inl ⟨_, rfl, hJs⟩⟩
    | succ j =>
      have hj : j < L.length := by omega
      obtain ⟨b, o, rfl, hb, hc0⟩ := Hc.out j hj
      have hcj : wr.cell? ⟨b, o + j, none⟩ = some (.int .i64 L[j]) := (hnx.1.cell (p := ⟨b, o + j, none⟩) hb).trans hc0
      clear hc0
      have hbox := (hnx.2 _ HBn.out).cell
      obtain ⟨hx0, hx1, hx2⟩ := HL.out L[j] (List.getElem_mem hj)
      have hst := Word.inv_drop hj
      obtain ⟨fn, tmps, assign, body, hy, hR⟩ := HY.out _ (-L[j]) wr hJs (by rw [Word.inv_len, List.length_drop]; omega)
      rw [← hst] at hR
      have HR := Lib.hid hR
      clear hst hR
      generalize L[j] = x at *
      rw [show ((j + 1 : Nat) : Int) - 1 = (j : Int) from by omega]
      gi_wp2
      refine HR.out.mono ?_
      rintro e W3 (⟨rfl, hJ3, hk3⟩ | ⟨rfl, hJx3⟩)
      · gi_wp2
        go_roundw
        case rel => exact ⟨j, by omega, rfl, hJ3, hnx.t hk3⟩
        case measure => simp [intOf] <;> omega
      · gi_wp2
        refine bodyPost_ret (results_none rfl _ _ _) rfl ?_
        exact ⟨⟨_, rfl⟩, .inr ⟨_, trivial, hJx3⟩⟩

set_option maxRecDepth 100000 in
set_option maxHeartbeats 1000000 in
theorem inverseLetters_in (n : Nat) (a : Option Addr) (len cap : Nat) (w : World) :
    CallsIn Fence.wide n Try.prog 145 #[.slice a len cap] w fun e w' => e = .returned (.func (.func 159) #[] #[.pointer (some ⟨w.heap.size, 0, none⟩)]) ∧ w' = w.alloc (.cells #[.slice a len cap] 42) := by
  refine callsIn_of_wp Try.func145 rfl trivial ?_ rfl
  simp only [Try.ntmps145, List.size_toArray, List.length_cons, List.length_nil, Nat.reduceAdd, Nat.reduceSub, Array.replicate_succ, Array.replicate_zero, List.push_toArray, List.append_toArray, List.nil_append, List.cons_append]
  gi_wp2
  go_ret
  exact ⟨rfl, rfl⟩

theorem inverse_stops (n : Nat) (hn : 1 ≤ n) (Bn n₀ : Nat) (a : Option Addr) (c : Nat) (L : List Int) (hL : ∀ x ∈ L, Word.Letter x) (hl24 : L.length ≤ 24) (w : World) (hBn : Bn < w.heap.size) (hn₀ : n₀ ≤ w.heap.size)
    (hbox : Boxed w Bn 42 (.slice a L.length c)) (hc : IntsAt w n₀ a L) :
    SeqStopsK Fence.wide n Try.prog 159 #[.pointer (some ⟨Bn, 0, none⟩)] (fun x : Int => #[Value.int .i64 x]) (KB n₀ Bn 42) (fun ys => ys = Word.inv L) (fun _ => True) L.length w := fun l J Jx W hW _ _ hY h0 =>
  inverse1_in n hn l Bn n₀ a c L hL hl24 J Jx hY W ((hW.block Bn hBn).trans hbox) (hc.below hW hn₀) h0

theorem inverse_of {l : List Int} (h : Word.IsW l) : Word.inverse l = Word.inv l := if_pos h
theorem inverse_not {l : List Int} (h : ¬ Word.IsW l) : Word.inverse l = [] := if_neg h
theorem inverse_len (l : List Int) : (Word.inverse l).length ≤ 24 := by
  unfold Word.inverse; split
  · rename_i h; rw [Word.inv_len]; exact h.2
  · simp

set_option maxRecDepth 100000 in
set_option maxHeartbeats 2000000 in
theorem impl_InverseWord_in (a : Option Addr) (c : Nat) (l : List Int) (w : World) (ha : RowAt w a (intCells l)) (hW : Word.IsW l) :
    CallsIn Fence.wide 5 Try.prog 99 #[.slice a l.length c] w fun e w' => Gives w (Word.inv l) e w' := by
  have hl24 := hW.2
  have hcW := impl_IsWord a c l w ha (by omega)
  rw [decide_eq_true hW] at hcW
  have Hcw := Lib.hid hcW; clear hcW
  have HW := Lib.hid hW; clear hW
  obtain ⟨i0, hi, hz0, hz1, hz2⟩ := info_int_parts
  have Ha := Lib.hid ha; clear ha
  refine callsIn_of_wp_marks Try.func99 rfl trivial ?_ rfl
  simp only [Try.ntmps99, List.size_toArray, List.length_cons, List.length_nil, Nat.reduceAdd, Nat.reduceSub, Array.replicate_succ, Array.replicate_zero, List.push_toArray, List.append_toArray, List.nil_append, List.cons_append]
  gi_wp2_with (first
    | (refine ⟨trivial, ?_⟩; gi_at_call 142; refine (callsIn_wide.2 Hcw.out).mono ?_; rintro e w1 ⟨rfl, hb1⟩)
    | (refine ⟨trivial, ?_⟩; gi_at_call 145; refine (inverseLetters_in _ _ _ _ _).mono ?_; rintro e w' ⟨rfl, rfl⟩))
  have hb1' := Lib.hid hb1
  have bO := Boxed.new w1 42 (.slice none 0 0)
  have bN := Boxed.new (w1.alloc (.cells #[.slice none 0 0] 42)) 42 (.slice a l.length c)
  rw [World.size_alloc] at bN
  have hB0 : Below w1.heap.size w1 ((w1.alloc (.cells #[.slice none 0 0] 42)).alloc (.cells #[.slice a l.length c] 42)) := ((Below.refl _ w1).alloc (Nat.le_refl _) _).alloc (by simp) _
  have hB1 : Below w.heap.size w ((w1.alloc (.cells #[.slice none 0 0] 42)).alloc (.cells #[.slice a l.length c] 42)) := hb1.trans (hB0.mono hb1.size)
  refine wpIn_rangeFunc_ownG rfl (by omega) (gf := 159) (lb := #[.pointer (some ⟨w1.heap.size + 1, 0, none⟩)]) rfl trivial (enters_of Try.func159 (by kernel_rfl) rfl)
    (inverse_stops 4 (by omega) (w1.heap.size + 1) w1.heap.size a c l HW.out.1 hl24 _ (by simp) (by simp; omega) bN (IntsAt.of Ha.out hB1 hb1.size)) KB.t (KB.b (by simp; omega)) (Below.refl _ _) (fun _ => rfl)
    (fun pre W => (∃ v, Boxed W w1.heap.size 42 v ∧ W.ownsRow w1.heap.size 3 1 v pre.length (intCells pre) ∧ True) ∧ Below w1.heap.size w1 W)
    (fun _ _ _ => False)
    (OwnFrom.and (Own.from (holdsRow_own w1.heap.size w1.heap.size 42 3 1 (fun pre => pre.length) (fun pre => intCells pre) (fun _ _ => True)) _) (ownFrom_below (Nat.le_refl _) (by simp; omega)))
    (fun _ _ _ _ _ hs _ _ => hs)
    ⟨⟨_, bO.alloc _, World.ownsRow_nil _ _ _ _, trivial⟩, hB0⟩
    (fun x => { tmps := #[.slice a l.length c, undef, .slice none 0 0, .pointer (some ⟨w1.heap.size, 0, none⟩), .int .i64 x, .slice a l.length c, .bool true, .bool false, .slice a l.length c, .func (.func 159) #[] #[.pointer (some ⟨w1.heap.size + 1, 0, none⟩)], .int .i64 x, undef, undef, undef, undef, undef], defers := [] }) ?assign ?body ?done ?stop
  case assign =>
    intro l x W K hK
    gi_wp2
    exact hK
  case body =>
    rintro l' pre x W ⟨⟨v, hv, hrow, _⟩, hB⟩ hlt
    have hc := hv.cell
    have hle := hB.size
    gi_wp2_with (gi_at_builtin; refine wpListIn_append_own _ rfl _ _ 42 rfl w1.heap.size 3 i0 (.int .i64 0) 1 8 Try.underlying42 hi hz0 hz1 hz2 rfl (by decide) _ _ _ rfl (hrow.alloc _) ⟨W.heap.size, 0, none⟩ 1 1 [.int .i64 x] rfl rfl (cell_one_new _ _ _) (by simp [Value.oneCell']) (by unfold maxLen; omega) (by omega) (by simp; omega) ?_; intro v' w2 hown' hgrow _; obtain ⟨g', cap', rfl⟩ := ownsRow_succ hown'; obtain ⟨hv1, hv2, hr2, hk2, hb2⟩ := hv.appended (by decide) hrow hB.size (Nat.le_refl _) hown' hgrow; have hc1 := hv1.cell; have hf1 := hv1.frozen)
    exact ⟨hk2.from _, KB.appended hb2 (by decide) hrow hgrow (by omega), ⟨_, hv2, by rw [List.length_append, ← intCells_snoc]; exact hr2, trivial⟩, hB.trans hb2⟩
  case done =>
    rintro D ys W hD rfl ⟨⟨v, hv, hrow, _⟩, hB⟩ hK
    have hc := hv.cell
    gi_wp2
    refine ⟨by simp, .inl ⟨_, _, rfl, run_takeDeferred hK, ?_⟩⟩
    refine ⟨_, results_tmp rfl _ _ _, ?_⟩
    have hb := hB.trans (belowK_b (w := w1) (Nat.le_refl _) W D _ (.deferred none) (by simp at hD; omega) hK rfl rfl)
    exact own_gives (own_mono (ownsRow_putObj hrow _ hK rfl) hb1'.out.size) rfl (hb1'.out.trans (hb.mono hb1'.out.size))
  case stop =>
    rintro D c pre W _ _ h _
    exact h.elim

set_option maxRecDepth 10000 in
set_option maxHeartbeats 400000 in
theorem impl_InverseWord (a : Option Addr) (c : Nat) (l : List Int) (w : World) (ha : RowAt w a (intCells l)) (hl : l.length ≤ 1048576) :
    Calls Try.prog 99 #[.slice a l.length c] w fun e w' => Gives w (Word.inverse l) e w' := by
  by_cases hW : Word.IsW l
  · rw [inverse_of hW]
    exact callsIn_wide.1 (impl_InverseWord_in a c l w ha hW)
  · have hcW := impl_IsWord a c l w ha hl
    rw [decide_eq_false hW] at hcW
    have Hcw := Lib.hid hcW; clear hcW
    have HW := Lib.hid hW; clear hW
    go_enter Try.func99, Try.ntmps99
    go_wp2_with fail
    refine Hcw.out.mono ?_
    rintro e w1 ⟨rfl, hb1⟩
    go_wp2
    go_ret
    rw [inverse_not HW.out]
    exact Gives.none hb1

set_option maxRecDepth 10000 in
set_option maxHeartbeats 400000 in
theorem spec_l2Inverse_own (a : Option Addr) (c : Nat) (l : List Int) (w : World) (ha : RowAt w a (intCells l)) (hl : l.length ≤ 1000) (hL : ∀ x ∈ l, Word.Letter x) :
    Calls Try.prog 94 #[.slice a l.length c] w fun e w' => ∃ v, e = .returned v ∧ w'.ownsRow w.heap.size 3 1 v (Word.inv l).length (intCells (Word.inv l)) ∧ Below w.heap.size w w' := by
  have HL := Lib.hid hL; clear hL
  obtain ⟨i0, hi0, hz0, hz1, hz2⟩ := info_int_parts
  have Hi0 := Lib.hid hi0; have Hz0 := Lib.hid hz0; have Hz1 := Lib.hid hz1; have Hz2 := Lib.hid hz2
  clear hi0 hz0 hz1 hz2
  generalize hN : w.heap.size = N at *
  have HN := Lib.hid hN
  go_enter Try.func94, Try.ntmps94
  go_wp2
  clear hN
  go_loopw [3, 4] (fun ov iv wr => ∃ r : Nat, r ≤ l.length ∧ iv = .int .i64 ((r : Int) - 1) ∧ Below N w wr ∧ wr.ownsRow N 3 1 ov (l.length - r) (intCells (Word.inv (l.drop r)))) (fun _ iv _ => (intOf iv + 1).toNat)
  case atStart => exact ⟨l.length, by omega, rfl, by have h := (Below.refl w.heap.size w).alloc (Nat.le_refl _) (.cells #[] 3); rw [HN.out] at h; exact h, by have h := own_made HN.out; rw [HN.out] at h; rw [List.drop_length, Nat.sub_self]; exact h⟩
  case round =>
    obtain ⟨r, hr, rfl, hb, hown⟩ := hrel
    have hNle : N ≤ wr.heap.size := by have := hb.size; rw [HN.out] at this; exact this
    cases r with
    | zero =>
      have Hown := Lib.hid hown; clear hown
      go_wp2
      go_ret
      exact ⟨_, rfl, by rw [Word.inv_len]; exact Hown.out, hb⟩
    | succ j =>
      have hj : j < l.length := by omega
      have ha' : RowAt wr a (intCells l) := ha.below (by rw [HN.out]; exact hb)
      obtain ⟨b, o, rfl, hbw0, hcell⟩ := intCells_at ha' hj
      obtain ⟨hx0, hx1, hx2⟩ := HL.out l[j] (List.getElem_mem hj)
      have Hst := Lib.hid (Word.inv_drop hj)
      have hlj : l.length - (j + 1) + 1 = l.length - j := by omega
      generalize hx : l[j] = x at *
      have Hx := Lib.hid hx; clear hx
      have hc1 : l.length - (j + 1) + 1 ≤ maxLen := by unfold maxLen; omega
      have hc2 : (l.length - (j + 1) + 1) * 8 ≤ 140737488355328 := by omega
      obtain ⟨av, cv, rfl⟩ := own_len hown
      rw [show ((j + 1 : Nat) : Int) - 1 = (j : Int) from by omega]
      have Hlj := Lib.hid hlj; clear hlj
      go_wp2_with (at_builtin; refine append_one rfl (.tmp 13) (.tmp 19) 42 rfl N 3 i0 _ 8 Try.underlying42 Hi0.out Hz0.out Hz1.out Hz2.out (by rfl) _ _ _ rfl hown (by rfl) _ rfl hc1 hc2 hNle ?_; intro v1 w1 hown1 hg1 _)
      go_roundw
      case rel =>
        refine ⟨j, by omega, rfl, Below.grown (hb.alloc hNle _) hg1 (by simp; omega) (fun k hk => (hown.lt k hk).1), ?_⟩
        rw [Hst.out, ← intCells_snoc, ← Hlj.out]; exact hown1
      case measure => simp [intOf] <;> omega

theorem spec_l2Inverse (a : Option Addr) (c : Nat) (l : List Int) (w : World) (ha : RowAt w a (intCells l)) (hl : l.length ≤ 1000) (hL : ∀ x ∈ l, Word.Letter x) :
    Calls Try.prog 94 #[.slice a l.length c] w fun e w' => Gives w (Word.inv l) e w' :=
  (spec_l2Inverse_own a c l w ha hl hL).mono (fun e w' ⟨v, he, ho, hb⟩ => by rw [he]; exact own_gives ho rfl hb)

set_option maxRecDepth 10000 in
set_option maxHeartbeats 400000 in
theorem spec_InverseWord (a : Option Addr) (c : Nat) (l : List Int) (w : World) (ha : RowAt w a (intCells l)) (hl : l.length ≤ 1048576) :
    Calls Try.prog 66 #[.slice a l.length c] w fun e w' => Gives w (Word.inverse l) e w' := by
  have hcW := spec_IsWord a c l w ha hl
  by_cases hW : Word.IsW l
  · rw [decide_eq_true hW] at hcW
    have Hcw := Lib.hid hcW; clear hcW
    have HW := Lib.hid hW; clear hW
    go_enter Try.func66, Try.ntmps66
    go_wp2_with fail
    refine Hcw.out.mono ?_
    rintro e w1 ⟨rfl, hb1⟩
    go_wp2_with fail
    refine (spec_l2Inverse a c l w1 (ha.below hb1) (by have := HW.out.2; omega) HW.out.1).mono ?_
    rintro e w2 hg
    have Hg := Lib.hid (hg.later hb1)
    obtain ⟨a', c', rfl, _, _, _, _⟩ := hg
    go_wp2
    go_ret
    rw [inverse_of HW.out]
    exact Hg.out
  · rw [decide_eq_false hW] at hcW
    have Hcw := Lib.hid hcW; clear hcW
    have HW := Lib.hid hW; clear hW
    go_enter Try.func66, Try.ntmps66
    go_wp2_with fail
    refine Hcw.out.mono ?_
    rintro e w1 ⟨rfl, hb1⟩
    go_wp2
    go_ret
    rw [inverse_not HW.out]
    exact own_gives (by exact own_mono (own_made (w := w1) rfl) hb1.size) rfl (hb1.alloc hb1.size _)
end Go.Proofs.Ytfaagbmaekoogaa
namespace Go.Proofs.Ytfaagbmaekoogaa
open Go.RowKit

theorem sums_cells_pos (s : List Int) (j : Nat) : (intCells s).toArray.setIfInBounds j (.int .i64 (s.getD j 0 + 1)) = (intCells (Word.sumPut s ((j : Int) + 1))).toArray := by
  unfold Word.sumPut
  rw [if_pos (by omega), show ((j : Int) + 1 - 1).toNat = j from by omega]
  simp [intCells, List.map_set]
theorem sums_cells_neg (s : List Int) (j : Nat) : (intCells s).toArray.setIfInBounds j (.int .i64 (s.getD j 0 - 1)) = (intCells (Word.sumPut s (-((j : Int) + 1)))).toArray := by
  unfold Word.sumPut
  rw [if_neg (by omega), show (-(-((j : Int) + 1)) - 1).toNat = j from by omega]
  simp [intCells, List.map_set]
theorem sums_cell {w : World} {g : Nat} {s : List Int} {j : Nat} (h : Blk w g 3 (intCells s).toArray) (hj : j < s.length) : w.cell? ⟨g, j, none⟩ = some (.int .i64 (s.getD j 0)) := by
  rw [h.cell j]; simp [intCells, List.getD_eq_getElem?_getD, hj]
theorem sums_made : madeCells (Value.int .i64 0).cells 8 = (intCells (Word.sums [])).toArray := by
  show madeCells #[Value.int .i64 0] 8 = _
  rw [made_one]; rfl
theorem sums_make (w : World) : (Instr.makeSlice 42 (.int .i64 8) (.int .i64 8)).run Try.prog w = .ok (.slice (some ⟨w.heap.size, 0, none⟩) 8 8) (w.alloc (.cells (intCells (Word.sums [])).toArray 3)) := by
  obtain ⟨i0, hi, hz0, hz1, hz2⟩ := info_int_parts
  have h := run_make_rowN (P := Try.prog) 42 3 i0 _ Try.underlying42 hi hz0 .i64 .i64 8 8 (Nat.le_refl _) (by rw [hz2]; omega) (by omega) w
  rw [hz1, Nat.mul_one, sums_made] at h
  exact h
theorem sums_of_not {l : List Int} (h : ¬ Word.IsW l) : Word.sumsOf l = [] := if_neg h
theorem sums_of {l : List Int} (h : Word.IsW l) : Word.sumsOf l = Word.sums l := if_pos h
theorem sumsOf_len (l : List Int) : (Word.sumsOf l).length ≤ 8 := by
  unfold Word.sumsOf; split
  · rw [Word.sums_len]; exact Nat.le_refl _
  · simp
theorem sums_gives {w w0 w' : World} {l : List Int} (hb : Below w.heap.size w w') (h0 : w.heap.size ≤ w0.heap.size) (hk : Blk w' w0.heap.size 3 (intCells (Word.sums l)).toArray) : Gives w (Word.sums l) (.returned (.slice (some ⟨w0.heap.size, 0, none⟩) 8 8)) w' :=
  ⟨_, 8, by rw [Word.sums_len], by rw [Word.sums_len]; exact Nat.le_refl _, by unfold maxLen; omega, Fresh.of_blk hk h0, hb⟩

set_option maxRecDepth 10000 in
set_option maxHeartbeats 400000 in
theorem impl_LetterSums (a : Option Addr) (c : Nat) (l : List Int) (w : World) (ha : RowAt w a (intCells l)) (hl : l.length ≤ 1048576) :
    Calls Try.prog 131 #[.slice a l.length c] w fun e w' => Gives w (Word.sumsOf l) e w' := by
  have hcW := impl_IsWord a c l w ha hl
  by_cases hW : Word.IsW l
  · rw [decide_eq_true hW] at hcW
    have Hcw := Lib.hid hcW; clear hcW
    have HW := Lib.hid hW; clear hW
    go_enter Try.func131, Try.ntmps131
    go_wp2_with fail
    refine Hcw.out.mono ?_
    rintro e w1 ⟨rfl, hb1⟩
    have hmk := sums_make w1
    generalize hN : w1.heap.size = N at *
    have HN := Lib.hid hN; clear hN
    have Hb1 := Lib.hid hb1
    go_wp2
    go_loopw [5, 12] (fun _ iv wr => ∃ i : Nat, i ≤ l.length ∧ iv = .int .i64 i ∧ Below w.heap.size w wr ∧ Hid (Blk wr N 3 (intCells (Word.sums (l.take i))).toArray)) (fun _ iv _ => l.length - (intOf iv).toNat)
    case atStart => exact ⟨0, by omega, rfl, Hb1.out.alloc Hb1.out.size _, Lib.hid (by have h := Blk.new w1 3 (intCells (Word.sums [])).toArray; rw [HN.out] at h; exact h)⟩
    case round =>
      obtain ⟨i, hi, rfl, hb, hk⟩ := hrel
      by_cases hlt : i < l.length
      · have ha' : RowAt wr a (intCells l) := ha.below hb
        obtain ⟨b, o, rfl, hbw0, hcell⟩ := intCells_at ha' hlt
        obtain ⟨hx0, hx1, hx2⟩ := HW.out.at hlt
        have hst := Word.sums_take hlt
        have hlen := Word.sums_len (l.take i)
        have hbd := Word.sums_bound (l.take i)
        rw [List.length_take] at hbd
        have hl24 := HW.out.2
        have hNle : w.heap.size ≤ N := by rw [← HN.out]; exact Hb1.out.size
        generalize hx : l[i] = x at *
        generalize hX : Word.sums (l.take i) = X at *
        have HX := Lib.hid hX; have Hx := Lib.hid hx; have Hst := Lib.hid hst
        clear hx hX hst
        by_cases hpos : 0 < x
        · obtain ⟨j, rfl⟩ : ∃ j : Nat, x = (j : Int) + 1 := ⟨(x - 1).toNat, by omega⟩
          have hj : j < 8 := by omega
          have hjX : j < X.length := by omega
          have hcj := sums_cell hk.out hjX
          have hbj := hbd j hj
          have hfz := hk.out.frozen j
          have Hput := Lib.hid (sums_cells_pos X j)
          generalize hs : X.getD j 0 = s at *
          have Hs := Lib.hid hs
          clear hs hbd
          go_wp2
          go_roundw
          case rel =>
            refine ⟨i + 1, by omega, by go_num, hb.setCell hNle _, Lib.hid ?_⟩
            have h := hk.out.put j (.int .i64 (s + 1))
            rw [Hput.out] at h
            rw [Hst.out]; exact h
          case measure => simp [intOf]; omega
        · obtain ⟨j, rfl⟩ : ∃ j : Nat, x = -((j : Int) + 1) := ⟨(-x - 1).toNat, by omega⟩
          have hj : j < 8 := by omega
          have hjX : j < X.length := by omega
          have hcj := sums_cell hk.out hjX
          have hbj := hbd j hj
          have hfz := hk.out.frozen j
          have Hput := Lib.hid (sums_cells_neg X j)
          generalize hs : X.getD j 0 = s at *
          have Hs := Lib.hid hs
          clear hs hbd
          go_wp2
          go_roundw
          case rel =>
            refine ⟨i + 1, by omega, by go_num, hb.setCell hNle _, Lib.hid ?_⟩
            have h := hk.out.put j (.int .i64 (s - 1))
            rw [Hput.out] at h
            rw [Hst.out]; exact h
          case measure => simp [intOf]; omega
      · obtain rfl : i = l.length := by omega
        rw [List.take_of_length_le (Nat.le_refl _)] at hk
        go_wp2
        go_ret
        rw [sums_of HW.out, ← HN.out]
        exact sums_gives hb Hb1.out.size (by rw [HN.out]; exact hk.out)
  · rw [decide_eq_false hW] at hcW
    have Hcw := Lib.hid hcW; clear hcW
    have HW := Lib.hid hW; clear hW
    go_enter Try.func131, Try.ntmps131
    go_wp2_with fail
    refine Hcw.out.mono ?_
    rintro e w1 ⟨rfl, hb1⟩
    go_wp2
    go_ret
    rw [sums_of_not HW.out]
    exact Gives.none hb1

set_option maxRecDepth 10000 in
set_option maxHeartbeats 400000 in
theorem spec_LetterSums (a : Option Addr) (c : Nat) (l : List Int) (w : World) (ha : RowAt w a (intCells l)) (hl : l.length ≤ 1048576) :
    Calls Try.prog 132 #[.slice a l.length c] w fun e w' => Gives w (Word.sumsOf l) e w' := by
  have hcW := spec_IsWord a c l w ha hl
  by_cases hW : Word.IsW l
  · rw [decide_eq_true hW] at hcW
    have Hcw := Lib.hid hcW; clear hcW
    have HW := Lib.hid hW; clear hW
    go_enter Try.func132, Try.ntmps132
    go_wp2_with fail
    refine Hcw.out.mono ?_
    rintro e w1 ⟨rfl, hb1⟩
    have hmk := sums_make w1
    generalize hN : w1.heap.size = N at *
    have HN := Lib.hid hN; clear hN
    have Hb1 := Lib.hid hb1
    go_wp2
    go_loopw [4] (fun iv wr => ∃ i : Nat, i ≤ l.length ∧ iv = .int .i64 i ∧ Below w.heap.size w wr ∧ Hid (Blk wr N 3 (intCells (Word.sums (l.take i))).toArray)) (fun iv _ => l.length - (intOf iv).toNat)
    case atStart => exact ⟨0, by omega, rfl, Hb1.out.alloc Hb1.out.size _, Lib.hid (by have h := Blk.new w1 3 (intCells (Word.sums [])).toArray; rw [HN.out] at h; exact h)⟩
    case round =>
      obtain ⟨i, hi, rfl, hb, hk⟩ := hrel
      by_cases hlt : i < l.length
      · have ha' : RowAt wr a (intCells l) := ha.below hb
        obtain ⟨b, o, rfl, hbw0, hcell⟩ := intCells_at ha' hlt
        obtain ⟨hx0, hx1, hx2⟩ := HW.out.at hlt
        have hst := Word.sums_take hlt
        have hlen := Word.sums_len (l.take i)
        have hbd := Word.sums_bound (l.take i)
        rw [List.length_take] at hbd
        have hl24 := HW.out.2
        have hNle : w.heap.size ≤ N := by rw [← HN.out]; exact Hb1.out.size
        have h0i : (0 : Int) ≤ (i : Int) := by omega
        have hil : (i : Int) < (l.length : Int) := by omega
        generalize hx : l[i] = x at *
        generalize hX : Word.sums (l.take i) = X at *
        have HX := Lib.hid hX; have Hx := Lib.hid hx; have Hst := Lib.hid hst
        clear hx hX hst
        by_cases hpos : 0 < x
        · obtain ⟨j, rfl⟩ : ∃ j : Nat, x = (j : Int) + 1 := ⟨(x - 1).toNat, by omega⟩
          have hj : j < 8 := by omega
          have hjX : j < X.length := by omega
          have hcj := sums_cell hk.out hjX
          have hbj := hbd j hj
          have hfz := hk.out.frozen j
          have h0j : (0 : Int) ≤ (j : Int) := by omega
          have hwj := wrap_small (x := (j : Int)) (by omega) (by omega)
          have hws := wrap_small (x := X.getD j 0 + 1) (by omega) (by omega)
          have hwt := wrap_small (x := X.getD j 0 - 1) (by omega) (by omega)
          have hwn := wrap_small (x := (j : Int) + 1) (by omega) (by omega)
          have hj8 : (j : Int) < 8 := by omega
          have Hput := Lib.hid (sums_cells_pos X j)
          generalize hs : X.getD j 0 = s at *
          have Hs := Lib.hid hs
          clear hs hbd
          go_wp2
          go_still_tail 16, (by kernel_rfl)
          change wpList _ _ _ _ _ wr.drew
          go_wp2
          go_roundw
          case rel =>
            refine ⟨i + 1, by omega, by go_num, Below.setCell (below_drewN hb 1) hNle _, Lib.hid ?_⟩
            have h := (hk.out.drewN 1).put j (.int .i64 (s + 1))
            rw [Hput.out] at h
            rw [Hst.out]; exact h
          case measure => simp [intOf]; omega
        · obtain ⟨j, rfl⟩ : ∃ j : Nat, x = -((j : Int) + 1) := ⟨(-x - 1).toNat, by omega⟩
          have hj : j < 8 := by omega
          have hjX : j < X.length := by omega
          have hcj := sums_cell hk.out hjX
          have hbj := hbd j hj
          have hfz := hk.out.frozen j
          have h0j : (0 : Int) ≤ (j : Int) := by omega
          have hwj := wrap_small (x := (j : Int)) (by omega) (by omega)
          have hws := wrap_small (x := X.getD j 0 + 1) (by omega) (by omega)
          have hwt := wrap_small (x := X.getD j 0 - 1) (by omega) (by omega)
          have hwn := wrap_small (x := (j : Int) + 1) (by omega) (by omega)
          have hj8 : (j : Int) < 8 := by omega
          have Hput := Lib.hid (sums_cells_neg X j)
          generalize hs : X.getD j 0 = s at *
          have Hs := Lib.hid hs
          clear hs hbd
          go_wp2
          go_still_tail 18, (by kernel_rfl)
          change wpList _ _ _ _ _ wr.drew
          go_wp2
          go_roundw
          case rel =>
            refine ⟨i + 1, by omega, by go_num, Below.setCell (below_drewN hb 1) hNle _, Lib.hid ?_⟩
            have h := (hk.out.drewN 1).put j (.int .i64 (s - 1))
            rw [Hput.out] at h
            rw [Hst.out]; exact h
          case measure => simp [intOf]; omega
      · obtain rfl : i = l.length := by omega
        rw [List.take_of_length_le (Nat.le_refl _)] at hk
        go_wp2
        go_ret
        rw [sums_of HW.out, ← HN.out]
        exact sums_gives hb Hb1.out.size (by rw [HN.out]; exact hk.out)
  · rw [decide_eq_false hW] at hcW
    have Hcw := Lib.hid hcW; clear hcW
    have HW := Lib.hid hW; clear hW
    go_enter Try.func132, Try.ntmps132
    go_wp2_with fail
    refine Hcw.out.mono ?_
    rintro e w1 ⟨rfl, hb1⟩
    go_wp2
    go_ret
    rw [sums_of_not HW.out]
    exact own_gives (by exact own_mono (own_made (w := w1) rfl) hb1.size) rfl (hb1.alloc hb1.size _)
end Go.Proofs.Ytfaagbmaekoogaa
namespace Go.Proofs.Ytfaagbmaekoogaa
open Go.RowKit

namespace Glue
/-- One side more is counted. -/
def put (s : List Int) (x : Int) : List Int := s.set x.natAbs (s.getD x.natAbs 0 + 1)
def count (l : List Int) : List Int := l.foldl put (List.replicate 9 0)
def uses (L : List (List Int)) : List Int := count L.flatten
theorem put_len (s : List Int) (x : Int) : (put s x).length = s.length := by simp [put]
theorem foldl_len (l s : List Int) : (l.foldl put s).length = s.length := by
  induction l generalizing s with
  | nil => rfl
  | cons x l ih => rw [List.foldl_cons, ih, put_len]
theorem count_len (l : List Int) : (count l).length = 9 := by rw [count, foldl_len]; rfl
theorem count_snoc (l : List Int) (x : Int) : count (l ++ [x]) = put (count l) x := by simp [count]
theorem uses_len (L : List (List Int)) : (uses L).length = 9 := count_len _
/-- How often a letter occurs, counting inverses. -/
theorem count_get (l : List Int) : ∀ k, k < 9 → (count l).getD k 0 = ((l.filter fun x => x.natAbs == k).length : Int) := by
  have key : ∀ (m s : List Int) (k : Nat), s.length = 9 → k < 9 → (m.foldl put s).getD k 0 = s.getD k 0 + ((m.filter fun x => x.natAbs == k).length : Int) := by
    intro m
    induction m with
    | nil => intro s k _ _; simp
    | cons x m ih =>
      intro s k hs hk
      rw [List.foldl_cons, ih _ k (by rw [put_len]; exact hs) hk, List.filter_cons]
      by_cases e : x.natAbs = k
      · subst e
        have : (put s x).getD x.natAbs 0 = s.getD x.natAbs 0 + 1 := by
          rw [put, List.getD_eq_getElem?_getD, List.getElem?_set]; simp [hs, hk]
        rw [this]; simp; omega
      · have : (put s x).getD k 0 = s.getD k 0 := by
          rw [put, List.getD_eq_getElem?_getD, List.getElem?_set, if_neg e, List.getD_eq_getElem?_getD]
        rw [this]; simp [e]
  intro k hk
  have h := key l (List.replicate 9 0) k rfl hk
  rw [count, h, List.getD_eq_getElem?_getD, List.getElem?_replicate]; simp [hk]
theorem count_bound (l : List Int) (k : Nat) (hk : k < 9) : 0 ≤ (count l).getD k 0 ∧ (count l).getD k 0 ≤ l.length := by
  rw [count_get l k hk]
  have := List.length_filter_le (fun x : Int => x.natAbs == k) l
  omega
theorem count_zero {l : List Int} (h : ∀ x ∈ l, Word.Letter x) : (count l).getD 0 0 = 0 := by
  rw [count_get l 0 (by omega)]
  have : l.filter (fun x => x.natAbs == 0) = [] := by
    rw [List.filter_eq_nil_iff]
    intro x hx
    have := (h x hx).1
    simp; exact this
  rw [this]; rfl

/-- The sides up to the letter j of the polygon i. -/
def upTo (L : List (List Int)) (i j : Nat) : List Int := (L.take i).flatten ++ (L.getD i []).take j
theorem upTo_zero (L : List (List Int)) : upTo L 0 0 = [] := by simp [upTo]
theorem upTo_start (L : List (List Int)) (i : Nat) : upTo L i 0 = (L.take i).flatten := by simp [upTo]
theorem upTo_step {L : List (List Int)} {i j : Nat} {r : List Int} {x : Int} (hi : L[i]? = some r) (hj : r[j]? = some x) : upTo L i (j + 1) = upTo L i j ++ [x] := by
  unfold upTo
  obtain ⟨h1, rfl⟩ := List.getElem?_eq_some_iff.1 hj
  rw [List.getD_eq_getElem?_getD, hi, Option.getD_some, List.take_succ_eq_append_getElem h1, List.append_assoc]
theorem upTo_next {L : List (List Int)} {i : Nat} {r : List Int} (hi : L[i]? = some r) : upTo L i r.length = upTo L (i + 1) 0 := by
  obtain ⟨h1, rfl⟩ := List.getElem?_eq_some_iff.1 hi
  unfold upTo
  rw [List.getD_eq_getElem?_getD, List.getElem?_eq_getElem h1, Option.getD_some, List.take_of_length_le (Nat.le_refl _), List.take_succ_eq_append_getElem h1, List.flatten_append]
  simp
theorem upTo_all (L : List (List Int)) : upTo L L.length 0 = L.flatten := by rw [upTo_start, List.take_of_length_le (Nat.le_refl _)]
theorem upTo_len {L : List (List Int)} {i : Nat} {r : List Int} (j : Nat) (hi : L[i]? = some r) : (upTo L i j).length ≤ L.flatten.length := by
  have h : (upTo L i j).length ≤ (upTo L (i + 1) 0).length := by
    rw [← upTo_next hi]
    unfold upTo
    simp only [List.length_append, List.length_take]
    rw [List.getD_eq_getElem?_getD, hi, Option.getD_some]
    omega
  rw [upTo_start] at h
  have h2 := sumLen_le L (i + 1)
  rw [sumLen_flat, sumLen_flat] at h2
  omega

def RowOk (p : List Int) : Prop := p ≠ [] ∧ Word.IsW p
instance (p : List Int) : Decidable (RowOk p) := by unfold RowOk; exact inferInstance
def IsG (L : List (List Int)) : Prop := 1 ≤ L.length ∧ L.length ≤ 4 ∧ (∀ p ∈ L, RowOk p) ∧ sumLen L ≤ 20 ∧ ∀ n ∈ uses L, n ≤ 2
instance (L : List (List Int)) : Decidable (IsG L) := by unfold IsG; exact inferInstance
theorem rows_of {L : List (List Int)} (h : ∀ i (hi : i < L.length), i < L.length → RowOk L[i]) : ∀ p ∈ L, RowOk p := by
  intro p hp
  obtain ⟨i, hi, rfl⟩ := List.mem_iff_getElem.1 hp
  exact h i hi hi
theorem not_row {L : List (List Int)} {i : Nat} (hi : i < L.length) (h : ¬ RowOk L[i]) : decide (IsG L) = false :=
  decide_eq_false fun hg => h (hg.2.2.1 _ (List.getElem_mem hi))
theorem letters_of {L : List (List Int)} (h : ∀ p ∈ L, Word.IsW p) : ∀ x ∈ L.flatten, Word.Letter x := by
  intro x hx
  obtain ⟨p, hp, hx⟩ := List.mem_flatten.1 hx
  exact (h p hp).1 x hx
theorem IsG.w {L : List (List Int)} (h : IsG L) : ∀ p ∈ L, Word.IsW p := fun p hp => (h.2.2.1 p hp).2
theorem IsG.flat {L : List (List Int)} (h : IsG L) : L.flatten.length ≤ 20 := by rw [← sumLen_flat]; exact h.2.2.2.1
theorem uses_at {L : List (List Int)} (k : Nat) (hk : k < (uses L).length) : (uses L)[k] = (uses L).getD k 0 := by
  rw [List.getD_eq_getElem?_getD, List.getElem?_eq_getElem hk]; rfl
theorem all_small {L : List (List Int)} (h : ∀ k (hk : k < (uses L).length), k < 9 → (uses L)[k] ≤ 2) : ∀ n ∈ uses L, n ≤ 2 := by
  intro n hn
  obtain ⟨k, hk, rfl⟩ := List.mem_iff_getElem.1 hn
  exact h k hk (by rwa [uses_len] at hk)

/-- The letters below m that occur at least, and at most, some times. -/
def lettersTo (L : List (List Int)) (lo hi : Int) (m : Nat) : List Int := ((List.range m).filter fun k => decide (lo ≤ (uses L).getD k 0 ∧ (uses L).getD k 0 ≤ hi)).map Int.ofNat
def letters (L : List (List Int)) (lo hi : Int) : List Int := lettersTo L lo hi 9
theorem lettersTo_zero (L : List (List Int)) (lo hi : Int) : lettersTo L lo hi 0 = [] := rfl
theorem lettersTo_one {L : List (List Int)} (h : ∀ p ∈ L, Word.IsW p) {lo hi : Int} (hl : 1 ≤ lo) : lettersTo L lo hi 1 = [] := by
  have h0 : (uses L).getD 0 0 = 0 := count_zero (letters_of h)
  unfold lettersTo
  rw [show List.range 1 = [0] from rfl, List.filter_cons, h0, if_neg (by simp; omega)]
  rfl
theorem lettersTo_in {L : List (List Int)} {lo hi : Int} {m : Nat} (h : lo ≤ (uses L).getD m 0 ∧ (uses L).getD m 0 ≤ hi) : lettersTo L lo hi (m + 1) = lettersTo L lo hi m ++ [(m : Int)] := by
  unfold lettersTo
  rw [List.range_succ, List.filter_append, List.map_append, List.filter_cons, if_pos (by simpa using h)]
  rfl
theorem lettersTo_out {L : List (List Int)} {lo hi : Int} {m : Nat} (h : ¬ (lo ≤ (uses L).getD m 0 ∧ (uses L).getD m 0 ≤ hi)) : lettersTo L lo hi (m + 1) = lettersTo L lo hi m := by
  unfold lettersTo
  rw [List.range_succ, List.filter_append, List.map_append, List.filter_cons, if_neg (by simpa using h)]
  simp
theorem lettersTo_len (L : List (List Int)) (lo hi : Int) (m : Nat) : (lettersTo L lo hi m).length ≤ m := by
  unfold lettersTo
  rw [List.length_map]
  have := List.length_filter_le (fun k => decide (lo ≤ (uses L).getD k 0 ∧ (uses L).getD k 0 ≤ hi)) (List.range m)
  rwa [List.length_range] at this
theorem letters_mem {L : List (List Int)} {lo hi x : Int} (h : x ∈ letters L lo hi) : ∃ k : Nat, x = k ∧ k < 9 ∧ lo ≤ (uses L).getD k 0 ∧ (uses L).getD k 0 ≤ hi := by
  unfold letters lettersTo at h
  simp only [List.mem_map, List.mem_filter, List.mem_range, decide_eq_true_eq] at h
  obtain ⟨k, ⟨h1, h2⟩, rfl⟩ := h
  exact ⟨k, rfl, h1, h2⟩
def edgeLetters (L : List (List Int)) : List Int := if IsG L then letters L 1 2 else []
def freeLetters (L : List (List Int)) : List Int := if IsG L then letters L 1 1 else []
theorem edgeLetters_len (L : List (List Int)) : (edgeLetters L).length ≤ 9 := by
  unfold edgeLetters; split
  · exact lettersTo_len _ _ _ _
  · simp
theorem freeLetters_len (L : List (List Int)) : (freeLetters L).length ≤ 9 := by
  unfold freeLetters; split
  · exact lettersTo_len _ _ _ _
  · simp
end Glue
end Go.Proofs.Ytfaagbmaekoogaa
namespace Go.Proofs.Ytfaagbmaekoogaa
open Go.RowKit

set_option maxRecDepth 10000 in
set_option maxHeartbeats 400000 in
theorem spec_l1Max (x y : Int) (w : World) : Calls Try.prog 153 #[.int .i64 x, .int .i64 y] w fun e w' => e = .returned (.int .i64 (max x y)) ∧ w' = w := by
  by_cases h : x > y
  · have hd : max x y = x := by omega
    rw [hd]; clear hd
    go_enter Try.func153, Try.ntmps153
    go_wp2
    go_ret
    exact ⟨rfl, rfl⟩
  · have hd : max x y = y := by omega
    rw [hd]; clear hd
    go_enter Try.func153, Try.ntmps153
    go_wp2
    go_ret
    exact ⟨rfl, rfl⟩

set_option maxRecDepth 10000 in
set_option maxHeartbeats 400000 in
theorem spec_l3Abs (x : Int) (w : World) (h0 : -1000000 ≤ x) (h1 : x ≤ 1000000) : Calls Try.prog 134 #[.int .i64 x] w fun e w' => e = .returned (.int .i64 x.natAbs) ∧ w' = w := by
  have hc := spec_l1Max x (-x) w
  rw [show max x (-x) = (x.natAbs : Int) from by omega] at hc
  have Hc := Lib.hid hc
  clear hc
  go_enter Try.func134, Try.ntmps134
  go_wp2_with fail
  refine Hc.out.mono ?_
  rintro e w1 ⟨rfl, rfl⟩
  go_wp2
  go_ret
  exact ⟨rfl, rfl⟩

set_option maxRecDepth 10000 in
set_option maxHeartbeats 400000 in
theorem impl_edgeOf (x : Int) (w : World) (h0 : -1000000 ≤ x) (h1 : x ≤ 1000000) : Calls Try.prog 103 #[.int .i64 x] w fun e w' => e = .returned (.int .i64 x.natAbs) ∧ w' = w := by
  generalize hd : (x.natAbs : Int) = y
  have Hd := Lib.hid hd; clear hd
  by_cases hx : x < -x
  · go_enter Try.func103, Try.ntmps103
    go_wp2
    go_ret
    exact ⟨by rw [← Hd.out]; first | (rw [show (x.natAbs : Int) = -x from by omega]; rfl) | (rw [show (x.natAbs : Int) = max x (-x) from by omega]; rfl) | (rw [show (x.natAbs : Int) = max (-x) x from by omega]; rfl), rfl⟩
  · go_enter Try.func103, Try.ntmps103
    go_wp2
    go_ret
    exact ⟨by rw [← Hd.out]; first | (rw [show (x.natAbs : Int) = x from by omega]; rfl) | (rw [show (x.natAbs : Int) = max x (-x) from by omega]; rfl) | (rw [show (x.natAbs : Int) = max (-x) x from by omega]; rfl), rfl⟩

theorem nine_made : madeCells (Value.int .i64 0).cells 9 = (intCells (Glue.count [])).toArray := by
  show madeCells #[Value.int .i64 0] 9 = _
  rw [made_one]; rfl
theorem nine_make (w : World) : (Instr.makeSlice 42 (.int .i64 9) (.int .i64 9)).run Try.prog w = .ok (.slice (some ⟨w.heap.size, 0, none⟩) 9 9) (w.alloc (.cells (intCells (Glue.count [])).toArray 3)) := by
  obtain ⟨i0, hi, hz0, hz1, hz2⟩ := info_parts info_int
  have h := run_make_rowN (P := Try.prog) 42 3 i0 _ Try.underlying42 hi hz0 .i64 .i64 9 9 (Nat.le_refl _) (by rw [hz2]; omega) (by omega) w
  rw [hz1, Nat.mul_one, nine_made] at h
  exact h
theorem count_cells (s : List Int) (x : Int) : (intCells s).toArray.setIfInBounds x.natAbs (.int .i64 (s.getD x.natAbs 0 + 1)) = (intCells (Glue.put s x)).toArray := by
  unfold Glue.put
  simp [intCells, List.map_set]
theorem ints_cell {w : World} {g : Nat} {t : TypeId} {s : List Int} {j : Nat} (h : Blk w g t (intCells s).toArray) (hj : j < s.length) : w.cell? ⟨g, j, none⟩ = some (.int .i64 (s.getD j 0)) := by
  rw [h.cell j]; simp [intCells, List.getD_eq_getElem?_getD, hj]

set_option maxRecDepth 10000 in
set_option maxHeartbeats 1000000 in
theorem spec_l3Uses (a : Option Addr) (c : Nat) (L : List (List Int)) (w : World) (ha : GridAt w a L) (hw : ∀ p ∈ L, Word.IsW p) (hl : sumLen L ≤ 1000) (hn : L.length ≤ 1000) :
    Calls Try.prog 141 #[.slice a L.length c] w fun e w' => ∃ g, e = .returned (.slice (some ⟨g, 0, none⟩) 9 9) ∧ w.heap.size ≤ g ∧ Blk w' g 3 (intCells (Glue.uses L)).toArray ∧ Below w.heap.size w w' := by
  have hmk := nine_make w
  generalize hN : w.heap.size = N at *
  have HN := Lib.hid hN
  have Ha := Lib.hid ha; have Hw := Lib.hid hw; have HL := Lib.hid hl
  clear ha hw hl
  go_enter Try.func141, Try.ntmps141
  go_wp2
  go_loopw [4, 5] (fun iv _ wr => ∃ i : Nat, i ≤ L.length ∧ iv = .int .i64 i ∧ Below N w wr ∧ Hid (Blk wr N 3 (intCells (Glue.count (Glue.upTo L i 0))).toArray)) (fun iv _ _ => L.length - (intOf iv).toNat)
  case atStart => exact ⟨0, by omega, rfl, by have h := (Below.refl w.heap.size w).alloc (Nat.le_refl _) (.cells (intCells (Glue.count [])).toArray 3); rw [HN.out] at h; exact h, Lib.hid (by have h := Blk.new w 3 (intCells (Glue.count [])).toArray; rw [HN.out] at h; exact h)⟩
  case round =>
    obtain ⟨i, hi, rfl, hb, hk⟩ := hrel
    by_cases hlt : i < L.length
    · obtain ⟨r, hr⟩ := get_some hlt
      have Hr := Lib.hid hr
      have hwi := Hw.out r (get_mem hr)
      have hll : r.length ≤ 24 := hwi.2
      have Hwi := Lib.hid hwi
      clear hr hwi
      go_wp2
      go_loopw [5] (fun jv w2 => ∃ j : Nat, j ≤ r.length ∧ jv = .int .i64 j ∧ Below N w w2 ∧ Hid (Blk w2 N 3 (intCells (Glue.count (Glue.upTo L i j))).toArray)) (fun jv _ => r.length - (intOf jv).toNat)
      case atStart => exact ⟨0, by omega, rfl, hb, hk⟩
      case round =>
        clear hb hk
        obtain ⟨j, hj, rfl, hb, hk⟩ := hrel
        obtain ⟨b, o, ai, ci, rfl, hbw, hcell, hrow⟩ := (Ha.out.below (by rw [HN.out]; exact hb)).get Hr.out
        by_cases hjt : j < r.length
        · obtain ⟨x, hx⟩ := get_some hjt
          obtain ⟨b', o', rfl, hbw', hcell'⟩ := intCells_get? hrow hx
          have hstep := Glue.upTo_step Hr.out hx
          have hbd := Glue.upTo_len j Hr.out
          obtain ⟨hx0, hx1, hx2⟩ := Hwi.out.1 x (get_mem hx)
          have hput := count_cells (Glue.count (Glue.upTo L i j)) x
          rw [← Glue.count_snoc, ← hstep] at hput
          have hle := HL.out
          rw [sumLen_flat] at hle
          obtain ⟨hc0, hc1⟩ := Glue.count_bound (Glue.upTo L i j) x.natAbs (by omega)
          have hcx := ints_cell hk.out (j := x.natAbs) (by rw [Glue.count_len]; omega)
          have hfz := hk.out.frozen x.natAbs
          generalize (Glue.count (Glue.upTo L i j)).getD x.natAbs 0 = s at *
          have hxa : x.natAbs < 9 := by omega
          have habs := fun W => spec_l3Abs x W (by omega) (by omega)
          generalize x.natAbs = xa at *
          have hxb : (xa : Int) < 9 := by omega
          have hxc : (0 : Int) ≤ (xa : Int) := by omega
          have Hput := Lib.hid hput; have Habs := Lib.hid habs
          clear hput hstep hrow habs hx0 hx1 hx2 hx
          go_wp2
          go_still_tail 22, (by kernel_rfl)
          still_call (Habs.out _)
          repeat still_step
          still_call (Habs.out _)
          repeat still_step
          refine wpStill_nil ?_
          change wpList _ _ _ _ _ wr.drew
          go_wp2
          go_roundw
          case rel =>
            refine ⟨j + 1, by omega, by go_num, Below.setCell (below_drewN hb 1) (Nat.le_refl _) _, Lib.hid ?_⟩
            have h := (hk.out.drewN 1).put xa (.int .i64 (s + 1))
            rw [Hput.out] at h
            exact h
          case measure => simp [intOf]; omega
        · obtain rfl : j = r.length := by omega
          rw [Glue.upTo_next Hr.out] at hk
          go_wp2
          go_roundw
          case rel => exact ⟨i + 1, by omega, by go_num, hb, hk⟩
          case measure => simp [intOf]; omega
    · obtain rfl : i = L.length := by omega
      rw [Glue.upTo_all] at hk
      go_wp2
      go_ret
      exact ⟨N, rfl, Nat.le_refl _, hk.out, hb⟩
end Go.Proofs.Ytfaagbmaekoogaa
namespace Go.Proofs.Ytfaagbmaekoogaa
open Word

namespace Am
/-- No letter stands before its inverse. -/
def Rd : List Int → Prop
  | [] => True
  | [_] => True
  | x :: y :: r => y ≠ -x ∧ Rd (y :: r)
theorem Rd.tail {x : Int} {l : List Int} (h : Rd (x :: l)) : Rd l := by
  cases l with
  | nil => trivial
  | cons y r => exact h.2
theorem Rd.cons {x : Int} {l : List Int} (h : Rd l) (hx : ∀ y, l.head? = some y → y ≠ -x) : Rd (x :: l) := by
  cases l with
  | nil => trivial
  | cons y r => exact ⟨hx y rfl, h⟩
theorem Rd.right : ∀ {u v : List Int}, Rd (u ++ v) → Rd v := by
  intro u
  induction u with
  | nil => intro v h; exact h
  | cons x u ih => intro v h; exact ih h.tail
theorem Rd.left : ∀ {u v : List Int}, Rd (u ++ v) → Rd u := by
  intro u
  induction u with
  | nil => intro v h; trivial
  | cons x u ih =>
    intro v h
    refine (ih h.tail).cons fun y hy => ?_
    cases u with
    | nil => cases hy
    | cons z u => cases hy; exact h.1
theorem Rd.mid {u v : List Int} (h : Rd (u ++ v)) {x y : Int} (hx : u.getLast? = some x) (hy : v.head? = some y) : y ≠ -x := by
  induction u with
  | nil => cases hx
  | cons a u ih =>
    cases u with
    | nil =>
      simp at hx; subst hx
      cases v with
      | nil => cases hy
      | cons b v => cases hy; exact h.1
    | cons b u =>
      rw [List.getLast?_cons_cons] at hx
      exact ih h.tail hx
theorem Rd.join {u v : List Int} (hu : Rd u) (hv : Rd v) (h : ∀ x y, u.getLast? = some x → v.head? = some y → y ≠ -x) : Rd (u ++ v) := by
  induction u with
  | nil => exact hv
  | cons a u ih =>
    refine (ih hu.tail (fun x y hx hy => h x y ?_ hy)).cons fun y hy => ?_
    · cases u with
      | nil => cases hx
      | cons b u => rw [List.getLast?_cons_cons]; exact hx
    · cases u with
      | nil => exact h a y rfl hy
      | cons b u => cases hy; exact hu.1
theorem snoc_cases (l : List Int) : l = [] ∨ ∃ t x, l = t ++ [x] := by
  rcases List.eq_nil_or_concat l with h | ⟨t, x, h⟩
  · exact Or.inl h
  · exact Or.inr ⟨t, x, by simpa using h⟩
theorem redStep_snoc_back (t : List Int) (x : Int) : redStep (t ++ [-x]) x = t := by
  unfold redStep; rw [if_pos (by simp)]; simp
theorem redStep_on {t : List Int} {x : Int} (h : t.getLast? ≠ some (-x)) : redStep t x = t ++ [x] := by
  unfold redStep; rw [if_neg h]
theorem redStep_rd {s : List Int} (h : Rd s) (x : Int) : Rd (redStep s x) := by
  by_cases hx : s.getLast? = some (-x)
  · unfold redStep; rw [if_pos hx]
    rcases snoc_cases s with rfl | ⟨t, y, rfl⟩
    · exact h
    · simp; exact h.left
  · rw [redStep_on hx]
    refine h.join trivial fun y z hy hz => ?_
    cases hz
    intro e; subst e
    exact hx (by rw [hy]; simp)
theorem fold_rd {s : List Int} (h : Rd s) (v : List Int) : Rd (v.foldl redStep s) := by
  induction v generalizing s with
  | nil => exact h
  | cons x v ih => exact ih (redStep_rd h x)
theorem red_rd (l : List Int) : Rd (red l) := fold_rd (s := []) trivial l
theorem fold_of_rd {s v : List Int} (h : Rd (s ++ v)) : v.foldl redStep s = s ++ v := by
  induction v generalizing s with
  | nil => simp
  | cons x v ih =>
    rw [List.foldl_cons, redStep_on, ih]
    · simp
    · simpa using h
    · intro e
      exact h.mid e rfl (by simp)
theorem red_of_rd {l : List Int} (h : Rd l) : red l = l := fold_of_rd (s := []) h
theorem red_red (l : List Int) : red (red l) = red l := red_of_rd (red_rd l)
theorem redStep_back {s : List Int} (h : Rd s) (x : Int) : redStep (redStep s x) (-x) = s := by
  by_cases hx : s.getLast? = some (-x)
  · rcases snoc_cases s with rfl | ⟨t, y, rfl⟩
    · cases hx
    · simp at hx; subst hx
      rw [redStep_snoc_back, redStep_on]
      intro e
      exact h.mid e rfl (by simp)
  · rw [redStep_on hx]
    have := redStep_snoc_back s (-x)
    simpa using this
theorem fold_red {s t : List Int} (hs : Rd s) (ht : Rd t) (v : List Int) : (v.foldl redStep t).foldl redStep s = v.foldl redStep (t.foldl redStep s) := by
  induction v generalizing t with
  | nil => rfl
  | cons x v ih =>
    rw [List.foldl_cons, ih (redStep_rd ht x), List.foldl_cons]
    congr 1
    by_cases hx : t.getLast? = some (-x)
    · rcases snoc_cases t with rfl | ⟨t, y, rfl⟩
      · cases hx
      · simp at hx; subst hx
        rw [redStep_snoc_back, List.foldl_append, List.foldl_cons, List.foldl_nil]
        have := redStep_back (fold_rd hs t) (-x)
        simp at this
        exact this.symm
    · rw [redStep_on hx, List.foldl_append, List.foldl_cons, List.foldl_nil]
theorem red_append (u v : List Int) : red (u ++ v) = v.foldl redStep (red u) := by unfold red; rw [List.foldl_append]
theorem red_left (u v : List Int) : red (red u ++ v) = red (u ++ v) := by rw [red_append, red_append, red_red]
theorem red_right (u v : List Int) : red (u ++ red v) = red (u ++ v) := by
  rw [red_append, red_append]
  exact fold_red (t := []) (red_rd u) trivial v
/-- The product of two words, reduced. -/
def mul (u v : List Int) : List Int := red (u ++ v)
theorem mul_assoc (u v w : List Int) : mul (mul u v) w = mul u (mul v w) := by
  unfold mul; rw [red_left, red_right, List.append_assoc]
theorem mul_rd (u v : List Int) : Rd (mul u v) := red_rd _
theorem mul_one {u : List Int} (h : Rd u) : mul u [] = u := by unfold mul; rw [List.append_nil, red_of_rd h]
theorem one_mul {u : List Int} (h : Rd u) : mul [] u = u := red_of_rd h
theorem inv_append (u v : List Int) : inv (u ++ v) = inv v ++ inv u := by simp [inv]
theorem inv_inv (u : List Int) : inv (inv u) = u := by
  unfold inv; simp [Function.comp_def]
theorem red_pair (x : Int) : red [x, -x] = [] := by
  show redStep (redStep [] x) (-x) = []
  exact redStep_back (s := []) trivial x
theorem mul_inv (u : List Int) : mul u (inv u) = [] := by
  induction u with
  | nil => rfl
  | cons x u ih =>
    unfold mul at ih ⊢
    rw [inv_cons, show x :: u ++ (inv u ++ [-x]) = [x] ++ ((u ++ inv u) ++ [-x]) from by simp, ← red_right, ← red_left (u ++ inv u), ih, red_right]
    exact red_pair x
theorem inv_mul (u : List Int) : mul (inv u) u = [] := by
  have := mul_inv (inv u); rwa [inv_inv] at this
theorem inv_rd {u : List Int} (h : Rd u) : Rd (inv u) := by
  induction u with
  | nil => trivial
  | cons x u ih =>
    rw [inv_cons]
    refine (ih h.tail).join trivial fun a b ha hb => ?_
    cases hb
    cases u with
    | nil => cases ha
    | cons y u =>
      rw [inv_cons] at ha
      simp at ha; subst ha
      have := h.1; omega
/-- The word along which the two sides are sewn, and its powers. -/
def P : Nat → List Int
  | 0 => []
  | n + 1 => 1 :: 2 :: -1 :: -2 :: P n
def M : Nat → List Int
  | 0 => []
  | n + 1 => 2 :: 1 :: -2 :: -1 :: M n
def zp : Int → List Int
  | .ofNat n => P n
  | .negSucc n => M (n + 1)
theorem P_head (n : Nat) : (P n).head? = some 1 ∨ P n = [] := by cases n <;> simp [P]
theorem M_head (n : Nat) : (M n).head? = some 2 ∨ M n = [] := by cases n <;> simp [M]
theorem P_rd : ∀ n, Rd (P n)
  | 0 => trivial
  | n + 1 => ⟨by decide, by decide, by decide, (P_rd n).cons fun y hy => by
      rcases P_head n with h | h <;> rw [h] at hy <;> cases hy; decide⟩
theorem M_rd : ∀ n, Rd (M n)
  | 0 => trivial
  | n + 1 => ⟨by decide, by decide, by decide, (M_rd n).cons fun y hy => by
      rcases M_head n with h | h <;> rw [h] at hy <;> cases hy; decide⟩
theorem zp_rd : ∀ k : Int, Rd (zp k)
  | .ofNat n => P_rd n
  | .negSucc n => M_rd (n + 1)
theorem zp_zero : zp 0 = [] := rfl
theorem P_len (n : Nat) : (P n).length = 4 * n := by induction n <;> simp [P]; omega
theorem M_len (n : Nat) : (M n).length = 4 * n := by induction n <;> simp [M]; omega
def Z : List Int := [1, 2, -1, -2]
def Zi : List Int := [2, 1, -2, -1]
theorem P_succ (n : Nat) : mul Z (P n) = P (n + 1) := red_of_rd (P_rd (n + 1))
theorem M_succ (n : Nat) : mul Zi (M n) = M (n + 1) := red_of_rd (M_rd (n + 1))
theorem Z_Zi : mul Z Zi = [] := by decide
theorem Zi_Z : mul Zi Z = [] := by decide
theorem Z_zp (k : Int) : mul Z (zp k) = zp (k + 1) := by
  cases k with
  | ofNat n => exact P_succ n
  | negSucc n =>
    show mul Z (M (n + 1)) = _
    rw [← M_succ, ← mul_assoc, Z_Zi, one_mul (M_rd n)]
    cases n with
    | zero => rfl
    | succ n => rfl
theorem Zi_zp (k : Int) : mul Zi (zp k) = zp (k - 1) := by
  have := Z_zp (k - 1)
  rw [Int.sub_add_cancel] at this
  rw [← this, ← mul_assoc, Zi_Z, one_mul (zp_rd _)]
theorem zp_add (j k : Int) : mul (zp j) (zp k) = zp (j + k) := by
  cases j with
  | ofNat n =>
    induction n with
    | zero => show mul [] (zp k) = zp (0 + k); rw [one_mul (zp_rd _), Int.zero_add]
    | succ n ih =>
      show mul (P (n + 1)) (zp k) = _
      rw [← P_succ, mul_assoc, show P n = zp (.ofNat n) from rfl, ih, Z_zp]
      congr 1; simp only [Int.ofNat_eq_natCast]; omega
  | negSucc n =>
    induction n with
    | zero => show mul Zi (zp k) = _; rw [Zi_zp]; congr 1; omega
    | succ n ih =>
      show mul (M (n + 2)) (zp k) = _
      rw [← M_succ, mul_assoc, show M (n + 1) = zp (.negSucc n) from rfl, ih, Zi_zp]
      congr 1; omega
theorem zp_inj {j k : Int} (h : zp j = zp k) : j = k := by
  have key : ∀ j : Int, zp j = [] → j = 0 := by
    intro j hj
    cases j with
    | ofNat n => cases n with
      | zero => rfl
      | succ n => cases hj
    | negSucc n => cases hj
  have h2 : zp (j - k) = [] := by
    have e : mul (zp j) (zp (-k)) = mul (zp k) (zp (-k)) := by rw [h]
    rw [zp_add, zp_add, Int.add_right_neg] at e
    exact e
  have := key _ h2; omega
/-- A power of the word. -/
def Pw (u : List Int) : Prop := ∃ k, u = zp k
theorem zp_cancel (k : Int) {u : List Int} (h : Rd u) : mul (zp (-k)) (mul (zp k) u) = u := by
  rw [← mul_assoc, zp_add, Int.add_left_neg, zp_zero, one_mul h]
theorem Pw.of_left {k : Int} {u : List Int} (hu : Rd u) (h : Pw (mul (zp k) u)) : Pw u := by
  obtain ⟨j, hj⟩ := h
  refine ⟨-k + j, ?_⟩
  rw [← zp_cancel k hu, hj, zp_add]
theorem Pw.of_right {k : Int} {u : List Int} (hu : Rd u) (h : Pw (mul u (zp k))) : Pw u := by
  obtain ⟨j, hj⟩ := h
  refine ⟨j + -k, ?_⟩
  have : mul (mul u (zp k)) (zp (-k)) = u := by rw [mul_assoc, zp_add, Int.add_right_neg, zp_zero, mul_one hu]
  rw [← this, hj, zp_add]
/-- The same coset. -/
def Co (u v : List Int) : Prop := ∃ k, mul (zp k) v = u
theorem Co.refl {u : List Int} (h : Rd u) : Co u u := ⟨0, one_mul h⟩
theorem Co.symm {u v : List Int} (hv : Rd v) (h : Co u v) : Co v u := by
  obtain ⟨k, rfl⟩ := h
  exact ⟨-k, zp_cancel k hv⟩
theorem Co.trans {u v w : List Int} (h : Co u v) (h' : Co v w) : Co u w := by
  obtain ⟨k, rfl⟩ := h
  obtain ⟨j, rfl⟩ := h'
  exact ⟨k + j, by rw [← zp_add, mul_assoc]⟩
noncomputable def rep (u : List Int) : List Int := Classical.epsilon fun v => Rd v ∧ Co u v
theorem rep_spec {u : List Int} (h : Rd u) : Rd (rep u) ∧ Co u (rep u) := Classical.epsilon_spec (p := fun v => Rd v ∧ Co u v) ⟨u, h, Co.refl h⟩
theorem rep_co {u v : List Int} (hv : Rd v) (h : Co u v) : rep u = rep v := by
  unfold rep
  congr 1
  funext t
  refine propext ⟨fun ⟨a, b⟩ => ⟨a, (h.symm hv).trans b⟩, fun ⟨a, b⟩ => ⟨a, h.trans b⟩⟩
theorem rep_rep {u : List Int} (h : Rd u) : rep (rep u) = rep u := (rep_co (rep_spec h).1 (rep_spec h).2).symm
theorem rep_pw {u : List Int} (h : Rd u) (hp : Pw (rep u)) : Pw u := by
  obtain ⟨k, hk⟩ := (rep_spec h).2
  obtain ⟨j, hj⟩ := hp
  exact ⟨k + j, by rw [← hk, hj, zp_add]⟩
noncomputable def expo (u : List Int) : Int := Classical.epsilon fun k => mul (zp k) (rep u) = u
theorem expo_spec {u : List Int} (h : Rd u) : mul (zp (expo u)) (rep u) = u := Classical.epsilon_spec (p := fun k => mul (zp k) (rep u) = u) (rep_spec h).2
noncomputable def expo1 (u : List Int) : Int := Classical.epsilon fun k => u = zp k
theorem expo1_spec {u : List Int} (h : Pw u) : u = zp (expo1 u) := Classical.epsilon_spec (p := fun k => u = zp k) h
theorem mul_right_cancel {u v t : List Int} (hu : Rd u) (hv : Rd v) (h : mul u t = mul v t) : u = v := by
  have := congrArg (fun x => mul x (inv t)) h
  simp only [mul_assoc, mul_inv] at this
  rwa [mul_one hu, mul_one hv] at this

/-- A state: a power, and cosets on alternating sides. -/
abbrev St := Int × List (Bool × List Int)
def Alt : List (Bool × List Int) → Prop
  | [] => True
  | [x] => Rd x.2 ∧ rep x.2 = x.2 ∧ ¬ Pw x.2
  | x :: y :: r => (Rd x.2 ∧ rep x.2 = x.2 ∧ ¬ Pw x.2) ∧ x.1 ≠ y.1 ∧ Alt (y :: r)
theorem Alt.head {x : Bool × List Int} {r : List (Bool × List Int)} (h : Alt (x :: r)) : Rd x.2 ∧ rep x.2 = x.2 ∧ ¬ Pw x.2 := by
  cases r with
  | nil => exact h
  | cons y r => exact h.1
theorem Alt.tail {x : Bool × List Int} {r : List (Bool × List Int)} (h : Alt (x :: r)) : Alt r := by
  cases r with
  | nil => trivial
  | cons y r => exact h.2.2
/-- The list does not begin on the side s. -/
def Free (s : Bool) (l : List (Bool × List Int)) : Prop := ∀ x, l.head? = some x → x.1 ≠ s
theorem Alt.free {x : Bool × List Int} {r : List (Bool × List Int)} (h : Alt (x :: r)) : Free x.1 r := by
  cases r with
  | nil => intro y hy; cases hy
  | cons y r => intro t ht; cases ht; exact fun e => h.2.1 e.symm
theorem Alt.cons {x : Bool × List Int} {r : List (Bool × List Int)} (h : Alt r) (hx : Rd x.2 ∧ rep x.2 = x.2 ∧ ¬ Pw x.2) (hf : Free x.1 r) : Alt (x :: r) := by
  cases r with
  | nil => exact hx
  | cons y r => exact ⟨hx, fun e => hf y rfl e.symm, h⟩
def top (s : Bool) (n : St) : List Int × List (Bool × List Int) :=
  match n.2 with
  | [] => (zp n.1, [])
  | x :: r => if x.1 = s then (mul (zp n.1) x.2, r) else (zp n.1, x :: r)
open Classical in
noncomputable def push (s : Bool) (v : List Int) (l : List (Bool × List Int)) : St :=
  if Pw v then (expo1 v, l) else (expo v, (s, rep v) :: l)
theorem top_free {s : Bool} {k : Int} {l : List (Bool × List Int)} (h : Free s l) : top s (k, l) = (zp k, l) := by
  cases l with
  | nil => rfl
  | cons x r => unfold top; simp only; rw [if_neg (h x rfl)]
theorem top_spec (s : Bool) {n : St} (h : Alt n.2) : Rd (top s n).1 ∧ Alt (top s n).2 ∧ Free s (top s n).2 := by
  obtain ⟨k, l⟩ := n
  cases l with
  | nil => exact ⟨zp_rd _, trivial, fun x hx => by cases hx⟩
  | cons x r =>
    by_cases e : x.1 = s
    · subst e
      unfold top; simp only [if_true]
      exact ⟨mul_rd _ _, Alt.tail h, Alt.free h⟩
    · unfold top; simp only [if_neg e]
      exact ⟨zp_rd _, h, fun y hy => by cases hy; exact e⟩
theorem push_alt {s : Bool} {v : List Int} {l : List (Bool × List Int)} (hv : Rd v) (hl : Alt l) (hf : Free s l) : Alt (push s v l).2 := by
  unfold push
  split
  · exact hl
  · rename_i hp
    exact Alt.cons (x := (s, rep v)) hl ⟨(rep_spec hv).1, rep_rep hv, fun h => hp (rep_pw hv h)⟩ hf
theorem top_push {s : Bool} {v : List Int} {l : List (Bool × List Int)} (hv : Rd v) (hf : Free s l) : top s (push s v l) = (v, l) := by
  unfold push
  split
  · rename_i hp
    rw [top_free hf, ← expo1_spec hp]
  · unfold top; simp only [if_true]
    rw [expo_spec hv]
theorem push_top {s : Bool} {n : St} (h : Alt n.2) : push s (top s n).1 (top s n).2 = n := by
  obtain ⟨k, l⟩ := n
  have free : ∀ l, Free s l → push s (top s (k, l)).1 (top s (k, l)).2 = (k, l) := by
    intro l hf
    rw [top_free hf]
    unfold push
    have hp : Pw (zp k) := ⟨k, rfl⟩
    rw [if_pos hp, ← zp_inj (expo1_spec hp)]
  cases l with
  | nil => exact free [] (fun x hx => by cases hx)
  | cons x r =>
    by_cases e : x.1 = s
    · subst e
      obtain ⟨hx1, hx2, hx3⟩ := Alt.head h
      unfold top; simp only [if_true]
      unfold push
      have hnp : ¬ Pw (mul (zp k) x.2) := fun hp => hx3 (hp.of_left hx1)
      have hrep : rep (mul (zp k) x.2) = x.2 := by rw [rep_co hx1 ⟨k, rfl⟩, hx2]
      rw [if_neg hnp, hrep]
      have := expo_spec (mul_rd (zp k) x.2)
      rw [hrep] at this
      have := zp_inj (mul_right_cancel (zp_rd _) (zp_rd _) this)
      rw [this]
    · exact free _ (fun y hy => by cases hy; exact e)
/-- An element of a side acts. -/
noncomputable def act (s : Bool) (u : List Int) (n : St) : St := push s (mul u (top s n).1) (top s n).2
theorem act_alt {s : Bool} {u : List Int} {n : St} (h : Alt n.2) : Alt (act s u n).2 :=
  push_alt (mul_rd _ _) (top_spec s h).2.1 (top_spec s h).2.2
theorem act_act {s : Bool} {u v : List Int} {n : St} (h : Alt n.2) : act s u (act s v n) = act s (mul u v) n := by
  unfold act
  rw [top_push (mul_rd _ _) (top_spec s h).2.2, mul_assoc]
theorem act_one {s : Bool} {n : St} (h : Alt n.2) : act s [] n = n := by
  unfold act
  rw [one_mul (top_spec s h).1, push_top h]
theorem act_zp {s : Bool} {j : Int} {n : St} (h : Alt n.2) : act s (zp j) n = (j + n.1, n.2) := by
  have e : top s (j + n.1, n.2) = (mul (zp j) (top s n).1, (top s n).2) := by
    obtain ⟨k, l⟩ := n
    have free : ∀ l, Free s l → top s (j + k, l) = (mul (zp j) (top s (k, l)).1, (top s (k, l)).2) := by
      intro l hf
      rw [top_free hf, top_free hf]
      simp only [zp_add]
    cases l with
    | nil => exact free [] (fun x hx => by cases hx)
    | cons x r =>
      by_cases e : x.1 = s
      · subst e
        unfold top; simp only [if_true]
        rw [← zp_add, mul_assoc]
      · exact free _ (fun y hy => by cases hy; exact e)
  have := push_top (s := s) (n := (j + n.1, n.2)) h
  rw [e] at this
  exact this
/-- Elements that are no powers, on alternating sides, lead away. -/
def Blocks : List (Bool × List Int) → Prop
  | [] => True
  | [x] => ¬ Pw x.2
  | x :: y :: r => ¬ Pw x.2 ∧ x.1 ≠ y.1 ∧ Blocks (y :: r)
noncomputable def acts (l : List (Bool × List Int)) (n : St) : St := l.foldr (fun x n => act x.1 x.2 n) n
theorem acts_alt {l : List (Bool × List Int)} {n : St} (h : Alt n.2) : Alt (acts l n).2 := by
  induction l with
  | nil => exact h
  | cons x l ih => exact act_alt ih
theorem Blocks.tail {x : Bool × List Int} {r : List (Bool × List Int)} (h : Blocks (x :: r)) : Blocks r := by
  cases r with
  | nil => trivial
  | cons y r => exact h.2.2
theorem Blocks.head {x : Bool × List Int} {r : List (Bool × List Int)} (h : Blocks (x :: r)) : ¬ Pw x.2 := by
  cases r with
  | nil => exact h
  | cons y r => exact h.1
theorem Blocks.cons {x : Bool × List Int} {r : List (Bool × List Int)} (h : Blocks r) (hx : ¬ Pw x.2) (hf : Free x.1 r) : Blocks (x :: r) := by
  cases r with
  | nil => exact hx
  | cons y r => exact ⟨hx, fun e => hf y rfl e.symm, h⟩
theorem Blocks.free {x : Bool × List Int} {r : List (Bool × List Int)} (h : Blocks (x :: r)) : Free x.1 r := by
  cases r with
  | nil => intro y hy; cases hy
  | cons y r => intro t ht; cases ht; exact fun e => h.2.1 e.symm
theorem Blocks.away {l : List (Bool × List Int)} (h : Blocks l) (hr : ∀ x ∈ l, Rd x.2) : (acts l (0, [])).2.length = l.length ∧ ∀ x, (acts l (0, [])).2.head? = some x → ∃ y, l.head? = some y ∧ y.1 = x.1 := by
  induction l with
  | nil => exact ⟨rfl, fun x hx => by cases hx⟩
  | cons x l ih =>
    obtain ⟨h1, h2⟩ := ih h.tail (fun y hy => hr y (List.mem_cons_of_mem _ hy))
    have hf : Free x.1 (acts l (0, [])).2 := by
      intro y hy e
      obtain ⟨t, ht, hty⟩ := h2 y hy
      exact h.free t ht (hty.trans e)
    show (act x.1 x.2 (acts l (0, []))).2.length = _ ∧ ∀ y, (act x.1 x.2 (acts l (0, []))).2.head? = some y → _
    unfold act
    rw [show top x.1 (acts l (0, [])) = (zp (acts l (0, [])).1, (acts l (0, [])).2) from top_free hf]
    have hnp : ¬ Pw (mul x.2 (zp (acts l (0, [])).1)) := fun hp => h.head (hp.of_right (hr x (List.mem_cons_self ..)))
    unfold push
    rw [if_neg hnp]
    refine ⟨by simp [h1], fun y hy => ?_⟩
    cases hy
    exact ⟨x, rfl, rfl⟩
end Am
end Go.Proofs.Ytfaagbmaekoogaa
namespace Go.Proofs.Ytfaagbmaekoogaa
open Word

namespace Dn
/-- Groups of one and two handles; their relators; the words of their letters. -/
def Gr (g : Int) : Prop := 1 ≤ g ∧ g ≤ 2
instance (g : Int) : Decidable (Gr g) := by unfold Gr; exact inferInstance
def rel (g : Int) : List Int := if g = 1 then [1, 2, -1, -2] else if g = 2 then [1, 2, -1, -2, 3, 4, -3, -4] else []
def Lets (g : Int) (l : List Int) : Prop := ∀ x ∈ l, (x.natAbs : Int) ≤ 2 * g
instance (g : Int) (l : List Int) : Decidable (Lets g l) := by unfold Lets; exact inferInstance
def Fit (g : Int) (l : List Int) : Prop := Gr g ∧ IsW l ∧ Lets g l
instance (g : Int) (l : List Int) : Decidable (Fit g l) := by unfold Fit; exact inferInstance
theorem gr_cases {g : Int} (h : Gr g) : g = 1 ∨ g = 2 := by unfold Gr at h; omega
theorem rel_not {g : Int} (h : ¬ Gr g) : rel g = [] := by
  unfold Gr at h; unfold rel; rw [if_neg (by omega), if_neg (by omega)]
theorem rel_len {g : Int} (h : Gr g) : ((rel g).length : Int) = 4 * g := by rcases gr_cases h with rfl | rfl <;> decide
theorem rel_w (g : Int) : IsW (rel g) := by
  by_cases h : Gr g
  · rcases gr_cases h with rfl | rfl <;> decide
  · rw [rel_not h]; decide
theorem rel_letters {g : Int} (h : Gr g) : ∀ x ∈ rel g, Letter x ∧ (x.natAbs : Int) ≤ 2 * g := by rcases gr_cases h with rfl | rfl <;> decide
theorem rel_len8 (g : Int) : (rel g).length ≤ 8 := by
  by_cases h : Gr g
  · rcases gr_cases h with rfl | rfl <;> decide
  · rw [rel_not h]; decide
/-- How many letters two words have in common from the first one on. -/
def lcp : List Int → List Int → Nat
  | x :: v, y :: r => if x = y then lcp v r + 1 else 0
  | _, _ => 0
theorem lcp_le_left : ∀ (v r : List Int), lcp v r ≤ v.length
  | [], _ => by simp [lcp]
  | _ :: _, [] => by simp [lcp]
  | x :: v, y :: r => by
    unfold lcp
    split
    · have := lcp_le_left v r; simp only [List.length_cons]; omega
    · omega
theorem lcp_le_right : ∀ (v r : List Int), lcp v r ≤ r.length
  | [], _ => by simp [lcp]
  | _ :: _, [] => by simp [lcp]
  | x :: v, y :: r => by
    unfold lcp
    split
    · have := lcp_le_right v r; simp only [List.length_cons]; omega
    · omega
theorem lcp_take : ∀ (v r : List Int), v.take (lcp v r) = r.take (lcp v r)
  | [], _ => by simp [lcp]
  | _ :: _, [] => by simp [lcp]
  | x :: v, y :: r => by
    unfold lcp
    split
    · rename_i h; subst h; simp only [List.take_succ_cons]; rw [lcp_take v r]
    · rfl
/-- Up to n they agree. -/
def Agree (v r : List Int) (n : Nat) : Prop := n ≤ v.length ∧ n ≤ r.length ∧ ∀ j, j < n → v[j]? = r[j]?
theorem Agree.zero (v r : List Int) : Agree v r 0 := ⟨Nat.zero_le _, Nat.zero_le _, fun j h => absurd h (by omega)⟩
theorem Agree.step {v r : List Int} {n : Nat} (h : Agree v r n) {x : Int} (hv : v[n]? = some x) (hr : r[n]? = some x) : Agree v r (n + 1) := by
  obtain ⟨h1, h2, h3⟩ := h
  refine ⟨(List.getElem?_eq_some_iff.1 hv).1, (List.getElem?_eq_some_iff.1 hr).1, fun j hj => ?_⟩
  by_cases e : j = n
  · subst e; rw [hv, hr]
  · exact h3 j (by omega)
theorem Agree.lcp : ∀ {v r : List Int} {n : Nat}, Agree v r n → (n = v.length ∨ n = r.length ∨ v[n]? ≠ r[n]?) → n = lcp v r
  | [], r, n, ⟨h1, _, _⟩, _ => by simp at h1; simp [Dn.lcp, h1]
  | x :: v, [], n, ⟨_, h1, _⟩, _ => by simp at h1; simp [Dn.lcp, h1]
  | x :: v, y :: r, 0, _, h => by
    unfold Dn.lcp
    rcases h with h | h | h
    · simp at h
    · simp at h
    · rw [if_neg (fun e => h (by simp [e]))]
  | x :: v, y :: r, n + 1, ⟨h1, h2, h3⟩, h => by
    have e : x = y := by simpa using h3 0 (by omega)
    unfold Dn.lcp
    rw [if_pos e]
    have := Agree.lcp (v := v) (r := r) (n := n) ⟨by simpa using h1, by simpa using h2, fun j hj => by simpa using h3 (j + 1) (by omega)⟩ (by simpa using h)
    omega
/-- The better of what was found and of r. -/
def pick (v : List Int) (p : Nat × List Int) (r : List Int) : Nat × List Int := if p.1 < lcp v r then (lcp v r, r) else p
def cand (g : Int) (t : Nat) : List Int := turn (if 4 * g ≤ (t : Int) then inv (rel g) else rel g) t
def bestTo (g : Int) (v : List Int) (t : Nat) : Nat × List Int := ((List.range t).map (cand g)).foldl (pick v) (0, [])
theorem bestTo_zero (g : Int) (v : List Int) : bestTo g v 0 = (0, []) := rfl
theorem bestTo_succ (g : Int) (v : List Int) (t : Nat) : bestTo g v (t + 1) = pick v (bestTo g v t) (cand g t) := by
  unfold bestTo; rw [List.range_succ, List.map_append, List.foldl_append]; rfl
theorem pick_le (v : List Int) {p : Nat × List Int} (r : List Int) (h : p.1 ≤ v.length ∧ p.1 ≤ p.2.length) : (pick v p r).1 ≤ v.length ∧ (pick v p r).1 ≤ (pick v p r).2.length := by
  unfold pick; split
  · exact ⟨lcp_le_left v r, lcp_le_right v r⟩
  · exact h
theorem fold_le (v : List Int) (L : List (List Int)) : ∀ {p : Nat × List Int}, (p.1 ≤ v.length ∧ p.1 ≤ p.2.length) → (L.foldl (pick v) p).1 ≤ v.length ∧ (L.foldl (pick v) p).1 ≤ (L.foldl (pick v) p).2.length := by
  induction L with
  | nil => intro p h; exact h
  | cons r L ih => intro p h; exact ih (pick_le v r h)
theorem bestTo_le (g : Int) (v : List Int) (t : Nat) : (bestTo g v t).1 ≤ v.length ∧ (bestTo g v t).1 ≤ (bestTo g v t).2.length :=
  fold_le v _ ⟨Nat.zero_le _, Nat.zero_le _⟩
theorem fold_mem (v : List Int) (L : List (List Int)) : ∀ {p : Nat × List Int}, p.2 = [] ∨ p.2 ∈ L → (L.foldl (pick v) p).2 = [] ∨ (L.foldl (pick v) p).2 ∈ L := by
  have key : ∀ (L M : List (List Int)), (∀ r ∈ L, r ∈ M) → ∀ {p : Nat × List Int}, p.2 = [] ∨ p.2 ∈ M → (L.foldl (pick v) p).2 = [] ∨ (L.foldl (pick v) p).2 ∈ M := by
    intro L
    induction L with
    | nil => intro M _ p h; exact h
    | cons r L ih =>
      intro M hM p h
      refine ih M (fun s hs => hM s (List.mem_cons_of_mem _ hs)) ?_
      unfold pick; split
      · exact Or.inr (hM r (List.mem_cons_self ..))
      · exact h
  intro p h
  exact key L L (fun _ h => h) h
theorem bestTo_mem (g : Int) (v : List Int) (t : Nat) : (bestTo g v t).2 = [] ∨ ∃ k, k < t ∧ (bestTo g v t).2 = cand g k := by
  rcases fold_mem v ((List.range t).map (cand g)) (p := (0, [])) (Or.inl rfl) with h | h
  · exact Or.inl h
  · obtain ⟨k, hk, e⟩ := List.mem_map.1 h
    exact Or.inr ⟨k, List.mem_range.1 hk, e.symm⟩
theorem inv_letters {p : Int → Prop} (hn : ∀ x, p x → p (-x)) {l : List Int} (h : ∀ x ∈ l, p x) : ∀ x ∈ inv l, p x := by
  intro x hx
  unfold inv at hx
  rw [List.mem_reverse, List.mem_map] at hx
  obtain ⟨y, hy, rfl⟩ := hx
  exact hn y (h y hy)
def Let (g : Int) (x : Int) : Prop := Letter x ∧ (x.natAbs : Int) ≤ 2 * g
theorem let_neg {g x : Int} (h : Let g x) : Let g (-x) := by
  obtain ⟨⟨h0, h1, h2⟩, h3⟩ := h
  exact ⟨⟨by omega, by omega, by omega⟩, by omega⟩
theorem cand_letters {g : Int} (h : Gr g) (t : Nat) : ∀ x ∈ cand g t, Let g x := by
  intro x hx
  unfold cand at hx
  have := turn_mem hx
  split at this
  · exact inv_letters (p := Let g) (fun _ => let_neg) (rel_letters h) x this
  · exact rel_letters h x this
theorem cand_len (g : Int) (t : Nat) : (cand g t).length = (rel g).length := by
  unfold cand; rw [turn_len]; split
  · rw [inv_len]
  · rfl
/-- One place: the word with the part there replaced, if the part is long enough. -/
def out (g : Int) (w : List Int) (i : Nat) (p : Nat × List Int) : List Int := red (w.take i ++ (inv (p.2.drop p.1) ++ w.drop (i + p.1)))
def stepAt (g : Int) (w : List Int) (i : Nat) : Option (List Int) :=
  if 2 * g < ((bestTo g (w.drop i) (8 * g).toNat).1 : Int) then some (out g w i (bestTo g (w.drop i) (8 * g).toNat)) else none
def step (g : Int) (w : List Int) : Option (List Int) := (List.range w.length).findSome? (stepAt g w)
theorem step_at {g : Int} {w r : List Int} {i : Nat} (hi : i < w.length) (h : stepAt g w i = some r) (hno : ∀ j, j < i → stepAt g w j = none) : step g w = some r := by
  unfold step
  rw [show w.length = i + (w.length - i) from by omega, List.range_add, List.findSome?_append, List.findSome?_eq_none_iff.2 (fun j hj => hno j (List.mem_range.1 hj))]
  rw [show w.length - i = (w.length - i - 1) + 1 from by omega, List.range_succ_eq_map]
  simp [h]
theorem step_no {g : Int} {w : List Int} (hno : ∀ j, j < w.length → stepAt g w j = none) : step g w = none := by
  unfold step
  exact List.findSome?_eq_none_iff.2 (fun j hj => hno j (List.mem_range.1 hj))
theorem step_some {g : Int} {w r : List Int} (h : step g w = some r) : ∃ i, i < w.length ∧ stepAt g w i = some r := by
  unfold step at h
  obtain ⟨i, hi, e⟩ := List.exists_of_findSome?_eq_some h
  exact ⟨i, List.mem_range.1 hi, e⟩
theorem step_none {g : Int} {w : List Int} (h : step g w = none) {i : Nat} (hi : i < w.length) : stepAt g w i = none := by
  unfold step at h
  exact List.findSome?_eq_none_iff.1 h i (List.mem_range.2 hi)
theorem out_raw {g : Int} (hg : Gr g) {w : List Int} {i : Nat} (hi : i ≤ w.length) (h : 2 * g < ((bestTo g (w.drop i) (8 * g).toNat).1 : Int)) :
    (w.take i ++ (inv ((bestTo g (w.drop i) (8 * g).toNat).2.drop (bestTo g (w.drop i) (8 * g).toNat).1) ++ w.drop (i + (bestTo g (w.drop i) (8 * g).toNat).1))).length < w.length := by
  have hle := bestTo_le g (w.drop i) (8 * g).toNat
  have hmem := bestTo_mem g (w.drop i) (8 * g).toNat
  generalize bestTo g (w.drop i) (8 * g).toNat = p at *
  have hl : (p.2.length : Int) ≤ 4 * g := by
    rcases hmem with e | ⟨k, _, e⟩
    · rw [e]; unfold Gr at hg; simp; omega
    · rw [e, cand_len, rel_len hg]; omega
  rw [List.length_drop] at hle
  simp only [List.length_append, List.length_take, List.length_drop, inv_len]
  unfold Gr at hg
  omega
theorem stepAt_len {g : Int} (hg : Gr g) {w r : List Int} {i : Nat} (hi : i ≤ w.length) (h : stepAt g w i = some r) : r.length < w.length := by
  unfold stepAt at h
  split at h
  · rename_i hb
    cases h
    have := out_raw hg hi hb
    have := red_len (w.take i ++ (inv ((bestTo g (w.drop i) (8 * g).toNat).2.drop (bestTo g (w.drop i) (8 * g).toNat).1) ++ w.drop (i + (bestTo g (w.drop i) (8 * g).toNat).1)))
    unfold out; omega
  · cases h
theorem step_len {g : Int} (hg : Gr g) {w r : List Int} (h : step g w = some r) : r.length < w.length := by
  obtain ⟨i, hi, e⟩ := step_some h
  exact stepAt_len hg (by omega) e
theorem out_letters {g : Int} (hg : Gr g) {w : List Int} (hw : ∀ x ∈ w, Let g x) (i : Nat) : ∀ x ∈ w.take i ++ (inv ((bestTo g (w.drop i) (8 * g).toNat).2.drop (bestTo g (w.drop i) (8 * g).toNat).1) ++ w.drop (i + (bestTo g (w.drop i) (8 * g).toNat).1)), Let g x := by
  have hmem := bestTo_mem g (w.drop i) (8 * g).toNat
  generalize bestTo g (w.drop i) (8 * g).toNat = p at *
  intro x hx
  rcases List.mem_append.1 hx with h | h
  · exact hw x (List.mem_of_mem_take h)
  · rcases List.mem_append.1 h with h | h
    · refine inv_letters (p := Let g) (fun _ => let_neg) (fun y hy => ?_) x h
      have hy := List.mem_of_mem_drop hy
      rcases hmem with e | ⟨k, _, e⟩
      · rw [e] at hy; cases hy
      · rw [e] at hy; exact cand_letters hg k y hy
    · exact hw x (List.mem_of_mem_drop h)
theorem step_letters {g : Int} (hg : Gr g) {w r : List Int} (hw : ∀ x ∈ w, Let g x) (h : step g w = some r) : ∀ x ∈ r, Let g x := by
  obtain ⟨i, hi, e⟩ := step_some h
  unfold stepAt at e
  split at e
  · cases e
    exact red_mem (out_letters hg hw i)
  · cases e
theorem step_red {g : Int} {w r : List Int} (h : step g w = some r) : red r = r := by
  obtain ⟨i, hi, e⟩ := step_some h
  unfold stepAt at e
  split at e
  · cases e
    exact Am.red_red _
  · cases e
/-- As many steps as there are. -/
def dehnN (g : Int) : Nat → List Int → List Int
  | 0, w => w
  | n + 1, w => match step g w with
    | some r => dehnN g n r
    | none => w
theorem dehnN_none {g : Int} {w : List Int} (h : step g w = none) : ∀ n, dehnN g n w = w
  | 0 => rfl
  | n + 1 => by unfold dehnN; rw [h]
theorem dehnN_some {g : Int} {w r : List Int} (h : step g w = some r) (n : Nat) : dehnN g (n + 1) w = dehnN g n r := by
  show (match step g w with | some r => dehnN g n r | none => w) = _
  rw [h]
theorem dehnN_more {g : Int} (hg : Gr g) : ∀ (n m : Nat) (w : List Int), w.length ≤ n → w.length ≤ m → dehnN g n w = dehnN g m w := by
  intro n
  induction n with
  | zero =>
    intro m w hn _
    obtain rfl := List.eq_nil_of_length_eq_zero (by omega : w.length = 0)
    exact (dehnN_none rfl m).symm
  | succ n ih =>
    intro m w hn hm
    cases h : step g w with
    | none => rw [dehnN_none h, dehnN_none h]
    | some r =>
      have := step_len hg h
      cases m with
      | zero => omega
      | succ m => rw [dehnN_some h, dehnN_some h]; exact ih m r (by omega) (by omega)
def dehn (g : Int) (w : List Int) : List Int := dehnN g w.length w
theorem dehn_none {g : Int} {w : List Int} (h : step g w = none) : dehn g w = w := dehnN_none h _
theorem dehn_some {g : Int} (hg : Gr g) {w r : List Int} (h : step g w = some r) : dehn g w = dehn g r := by
  have hl := step_len hg h
  unfold dehn
  rw [show w.length = (w.length - 1) + 1 from by omega, dehnN_some h]
  exact dehnN_more hg _ _ r (by omega) (Nat.le_refl _)
theorem dehn_len {g : Int} (hg : Gr g) : ∀ (n : Nat) (w : List Int), w.length ≤ n → (dehn g w).length ≤ w.length := by
  intro n
  induction n with
  | zero => intro w hn; rw [dehn_none (step_no fun j hj => by omega)]; exact Nat.le_refl _
  | succ n ih =>
    intro w hn
    cases h : step g w with
    | none => rw [dehn_none h]; exact Nat.le_refl _
    | some r =>
      have hl := step_len hg h
      rw [dehn_some hg h]
      have := ih r (by omega); omega
/-- The sum of the letters of one kind. -/
def wt (j : Nat) (x : Int) : Int := if x = (j : Int) + 1 then 1 else if x = -((j : Int) + 1) then -1 else 0
def tot (j : Nat) (l : List Int) : Int := (l.map (wt j)).sum
theorem wt_neg (j : Nat) (x : Int) : wt j (-x) = - wt j x := by
  unfold wt
  by_cases h1 : x = (j : Int) + 1
  · rw [if_neg (by omega), if_pos (by omega), if_pos h1]
  · by_cases h2 : x = -((j : Int) + 1)
    · rw [if_pos (by omega), if_neg h1, if_pos h2]; rfl
    · rw [if_neg (by omega), if_neg (by omega), if_neg h1, if_neg h2]; rfl
theorem tot_append (j : Nat) (a b : List Int) : tot j (a ++ b) = tot j a + tot j b := by simp [tot]
theorem tot_one (j : Nat) (x : Int) : tot j [x] = wt j x := by simp [tot]
theorem tot_cons (j : Nat) (x : Int) (l : List Int) : tot j (x :: l) = wt j x + tot j l := by simp [tot]
theorem tot_take {l : List Int} {i : Nat} (h : i < l.length) (j : Nat) : tot j (l.take (i + 1)) = tot j (l.take i) + wt j l[i] := by
  rw [List.take_succ_eq_append_getElem h, tot_append, tot_one]
theorem tot_inv (j : Nat) (l : List Int) : tot j (inv l) = - tot j l := by
  induction l with
  | nil => rfl
  | cons x l ih => rw [inv_cons, tot_append, ih, tot_one, wt_neg, tot_cons]; omega
theorem tot_bound (j : Nat) (l : List Int) : -(l.length : Int) ≤ tot j l ∧ tot j l ≤ l.length := by
  induction l with
  | nil => simp [tot]
  | cons x l ih =>
    rw [tot_cons]
    have : -1 ≤ wt j x ∧ wt j x ≤ 1 := by unfold wt; split <;> (try split) <;> omega
    simp only [List.length_cons]; omega
theorem tot_far {g : Int} {l : List Int} (h : Lets g l) {j : Nat} (hj : 2 * g ≤ (j : Int)) : tot j l = 0 := by
  induction l with
  | nil => rfl
  | cons x l ih =>
    rw [tot_cons, ih (fun y hy => h y (List.mem_cons_of_mem _ hy))]
    have := h x (List.mem_cons_self ..)
    have : wt j x = 0 := by unfold wt; rw [if_neg (by omega), if_neg (by omega)]
    omega
theorem sumPut_at {s : List Int} (hs : s.length = 8) {x : Int} (hx : Letter x) {j : Nat} (hj : j < 8) : (sumPut s x).getD j 0 = s.getD j 0 + wt j x := by
  obtain ⟨h0, h1, h2⟩ := hx
  unfold sumPut wt
  by_cases hp : 0 < x
  · rw [if_pos hp]
    by_cases he : (x - 1).toNat = j
    · rw [if_pos (by omega), List.getD_eq_getElem?_getD, List.getElem?_set, if_pos he, if_pos (by omega), he]; rfl
    · rw [if_neg (by omega), if_neg (by omega), List.getD_eq_getElem?_getD, List.getElem?_set, if_neg he, List.getD_eq_getElem?_getD]; omega
  · rw [if_neg hp]
    by_cases he : (-x - 1).toNat = j
    · rw [if_neg (by omega), if_pos (by omega), List.getD_eq_getElem?_getD, List.getElem?_set, if_pos he, if_pos (by omega), he]; rfl
    · rw [if_neg (by omega), if_neg (by omega), List.getD_eq_getElem?_getD, List.getElem?_set, if_neg he, List.getD_eq_getElem?_getD]; omega
theorem sums_at {l : List Int} (hl : ∀ x ∈ l, Letter x) {j : Nat} (hj : j < 8) : (sums l).getD j 0 = tot j l := by
  have key : ∀ (m s : List Int), (∀ x ∈ m, Letter x) → s.length = 8 → (m.foldl sumPut s).getD j 0 = s.getD j 0 + tot j m := by
    intro m
    induction m with
    | nil => intro s _ _; simp [tot]
    | cons x m ih =>
      intro s hm hs
      rw [List.foldl_cons, ih _ (fun y hy => hm y (List.mem_cons_of_mem _ hy)) (by rw [sumPut_len, hs]), sumPut_at hs (hm x (List.mem_cons_self ..)) hj, tot_cons]; omega
  have := key l (List.replicate 8 0) hl (by simp)
  rw [sums, this]
  have h0 : (List.replicate 8 (0 : Int)).getD j 0 = 0 := by
    rw [List.getD_eq_getElem?_getD, List.getElem?_replicate]; split <;> rfl
  rw [h0]; omega
theorem sums_list {l : List Int} (hl : ∀ x ∈ l, Letter x) : sums l = (List.range 8).map fun j => tot j l := by
  apply List.ext_getElem
  · rw [sums_len]; simp
  · intro j h1 h2
    have hj : j < 8 := by rw [sums_len] at h1; exact h1
    have := sums_at hl hj
    rw [List.getD_eq_getElem?_getD, List.getElem?_eq_getElem h1] at this
    simpa using this
/-- Trivial words. -/
def Triv (g : Int) (l : List Int) : Prop := if g = 2 then dehn g (red l) = [] else tot 0 l = 0 ∧ tot 1 l = 0
instance (g : Int) (l : List Int) : Decidable (Triv g l) := by unfold Triv; exact inferInstance
/-- The answers. -/
def stepW (g : Int) (l : List Int) : Option (List Int) := if Fit g l then step g (red l) else none
def dehnW (g : Int) (l : List Int) : List Int := if Fit g l then dehn g (red l) else []
def TrivW (g : Int) (l : List Int) : Prop := Fit g l ∧ Triv g l
instance (g : Int) (l : List Int) : Decidable (TrivW g l) := by unfold TrivW; exact inferInstance
def EqualW (g : Int) (v w : List Int) : Prop := Fit g v ∧ Fit g w ∧ v.length + w.length ≤ 24 ∧ Triv g (v ++ inv w)
instance (g : Int) (v w : List Int) : Decidable (EqualW g v w) := by unfold EqualW; exact inferInstance
def homW (g : Int) (l : List Int) : List Int := if Fit g l then (sums l).take (2 * g).toNat else []
def CommW (g : Int) (v w : List Int) : Prop := Fit g v ∧ Fit g w ∧ 2 * (v.length + w.length) ≤ 24 ∧ Triv g ((v ++ w) ++ inv (w ++ v))
instance (g : Int) (v w : List Int) : Decidable (CommW g v w) := by unfold CommW; exact inferInstance
theorem Fit.lets {g : Int} {l : List Int} (h : Fit g l) : ∀ x ∈ l, Let g x := fun x hx => ⟨h.2.1.1 x hx, h.2.2 x hx⟩
theorem Fit.mk {g : Int} {l : List Int} (hg : Gr g) (h : ∀ x ∈ l, Let g x) (hl : l.length ≤ 24) : Fit g l := ⟨hg, ⟨fun x hx => (h x hx).1, hl⟩, fun x hx => (h x hx).2⟩
theorem Fit.red {g : Int} {l : List Int} (h : Fit g l) : Fit g (red l) := Fit.mk h.1 (red_mem h.lets) (Nat.le_trans (red_len l) h.2.1.2)
theorem Fit.inv {g : Int} {l : List Int} (h : Fit g l) : Fit g (inv l) := Fit.mk h.1 (inv_letters (p := Let g) (fun _ => let_neg) h.lets) (by rw [inv_len]; exact h.2.1.2)
theorem fit_append {g : Int} {v w : List Int} : Fit g (v ++ w) ↔ Fit g v ∧ Fit g w ∧ v.length + w.length ≤ 24 := by
  constructor
  · intro h
    have hl := h.2.1.2
    rw [List.length_append] at hl
    exact ⟨Fit.mk h.1 (fun x hx => h.lets x (List.mem_append_left _ hx)) (by omega), Fit.mk h.1 (fun x hx => h.lets x (List.mem_append_right _ hx)) (by omega), hl⟩
  · rintro ⟨h1, h2, h3⟩
    refine Fit.mk h1.1 (fun x hx => ?_) (by rw [List.length_append]; exact h3)
    rcases List.mem_append.1 hx with h | h
    · exact h1.lets x h
    · exact h2.lets x h
/-- The two ways around on which a letter stands. -/
def around (g : Int) (x : Int) (back : Bool) : List Int := turn (if back then inv (rel g) else rel g) ((if back then inv (rel g) else rel g).idxOf x : Nat)
theorem lcp_head {x y : Int} {v r : List Int} (h : x ≠ y) : lcp (x :: v) (y :: r) = 0 := by unfold lcp; rw [if_neg h]
theorem pick_zero {v : List Int} {p : Nat × List Int} {r : List Int} (h : lcp v r = 0) : pick v p r = p := by unfold pick; rw [if_neg (by omega)]
theorem fold_filter (x : Int) (v : List Int) (L : List (List Int)) : ∀ p, L.foldl (pick (x :: v)) p = (L.filter fun r => r.head? == some x).foldl (pick (x :: v)) p := by
  induction L with
  | nil => intro p; rfl
  | cons r L ih =>
    intro p
    rw [List.foldl_cons, ih, List.filter_cons]
    by_cases h : r.head? = some x
    · rw [if_pos (by simp [h])]; rfl
    · rw [if_neg (by simpa using h)]
      congr 1
      refine pick_zero ?_
      cases r with
      | nil => rfl
      | cons y r => exact lcp_head (fun e => h (by simp [e]))
theorem around_best {g x : Int} (hg : Gr g) (hx : Let g x) (v : List Int) : bestTo g (x :: v) (8 * g).toNat = pick (x :: v) (pick (x :: v) (0, []) (around g x false)) (around g x true) := by
  unfold bestTo
  rw [fold_filter]
  have : ((List.range (8 * g).toNat).map (cand g)).filter (fun r => r.head? == some x) = [around g x false, around g x true] := by
    obtain ⟨⟨h0, _, _⟩, h3⟩ := hx
    rcases gr_cases hg with rfl | rfl
    · have : x = -2 ∨ x = -1 ∨ x = 1 ∨ x = 2 := by omega
      rcases this with rfl | rfl | rfl | rfl <;> decide
    · have : x = -4 ∨ x = -3 ∨ x = -2 ∨ x = -1 ∨ x = 1 ∨ x = 2 ∨ x = 3 ∨ x = 4 := by omega
      rcases this with rfl | rfl | rfl | rfl | rfl | rfl | rfl | rfl <;> decide
  rw [this]; rfl
end Dn
end Go.Proofs.Ytfaagbmaekoogaa
namespace Go.Proofs.Ytfaagbmaekoogaa
open Go.RowKit

set_option maxRecDepth 10000 in
set_option maxHeartbeats 1000000 in
theorem impl_countLetters (a : Option Addr) (c : Nat) (L : List (List Int)) (w : World) (ha : GridAt w a L) (hw : ∀ p ∈ L, Word.IsW p) (hl : sumLen L ≤ 1000) (hn : L.length ≤ 1000) :
    Calls Try.prog 143 #[.slice a L.length c] w fun e w' => e = .returned (.agg (intCells (Glue.uses L)).toArray) ∧ Below w.heap.size w w' := by
  generalize hN : w.heap.size = N at *
  have HN := Lib.hid hN
  have Ha := Lib.hid ha; have Hw := Lib.hid hw; have HL := Lib.hid hl
  clear ha hw hl
  go_enter Try.func143, Try.ntmps143
  go_wp2
  go_loopw [5, 7, 10] (fun _ _ iv wr => ∃ i : Nat, i ≤ L.length ∧ iv = .int .i64 i ∧ Below N w wr ∧ Hid (Blk wr N 98 (intCells (Glue.count [])).toArray ∧ Blk wr (N + 1) 98 (intCells (Glue.count (Glue.upTo L i 0))).toArray)) (fun _ _ iv _ => L.length - (intOf iv).toNat)
  case atStart =>
    refine ⟨0, by omega, rfl, ?_, Lib.hid ⟨?_, ?_⟩⟩
    · have h := ((Below.refl w.heap.size w).alloc (Nat.le_refl _) (.cells (intCells (Glue.count [])).toArray 98)).alloc (by simp) (.cells (intCells (Glue.count [])).toArray 98)
      rw [HN.out] at h; exact h
    · have h := (Blk.new w 98 (intCells (Glue.count [])).toArray).alloc (.cells (intCells (Glue.count [])).toArray 98)
      rw [HN.out] at h; exact h
    · have h := Blk.new (w.alloc (.cells (intCells (Glue.count [])).toArray 98)) 98 (intCells (Glue.count [])).toArray
      have e : (w.alloc (.cells (intCells (Glue.count [])).toArray 98)).heap.size = N + 1 := by rw [← HN.out]; simp
      rw [e] at h; exact h
  case round =>
    obtain ⟨i, hi, rfl, hb, hk⟩ := hrel
    by_cases hlt : i < L.length
    · obtain ⟨r, hr⟩ := get_some hlt
      have Hr := Lib.hid hr
      have hwi := Hw.out r (get_mem hr)
      have hll : r.length ≤ 24 := hwi.2
      have Hwi := Lib.hid hwi
      clear hr hwi
      obtain ⟨b, o, ai, ci, rfl, hbw, hcell0, hrow⟩ := Ha.out.get Hr.out
      have hcell : wr.cell? ⟨b, o + i, none⟩ = some (.slice ai r.length ci) := by rw [hb.cell (by rw [← HN.out]; exact hbw)]; exact hcell0
      have Hrow := Lib.hid hrow
      clear hcell0 hbw
      have Hb := Lib.hid hb
      clear hrow hb
      go_wp2
      go_loopw [7, 16] (fun _ jv w2 => ∃ j : Nat, j ≤ r.length ∧ jv = .int .i64 j ∧ Hid (Below N w w2) ∧ Hid (Blk w2 N 98 (intCells (Glue.count [])).toArray ∧ Blk w2 (N + 1) 98 (intCells (Glue.count (Glue.upTo L i j))).toArray)) (fun _ jv _ => r.length - (intOf jv).toNat)
      case atStart => exact ⟨0, by omega, rfl, Hb, hk⟩
      case round =>
        clear hk
        obtain ⟨j, hj, rfl, hb, hk⟩ := hrel
        by_cases hjt : j < r.length
        · obtain ⟨x, hx⟩ := get_some hjt
          obtain ⟨b', o', rfl, hbw', hcell'⟩ := intCells_get? (Hrow.out.below (by rw [HN.out]; exact hb.out)) hx
          have hstep := Glue.upTo_step Hr.out hx
          have hbd := Glue.upTo_len j Hr.out
          obtain ⟨hx0, hx1, hx2⟩ := Hwi.out.1 x (get_mem hx)
          have hput := count_cells (Glue.count (Glue.upTo L i j)) x
          rw [← Glue.count_snoc, ← hstep] at hput
          have hle := HL.out
          rw [sumLen_flat] at hle
          obtain ⟨hc0, hc1⟩ := Glue.count_bound (Glue.upTo L i j) x.natAbs (by omega)
          have hcx := ints_cell hk.out.2 (j := x.natAbs) (by rw [Glue.count_len]; omega)
          have hfz := hk.out.2.frozen x.natAbs
          generalize (Glue.count (Glue.upTo L i j)).getD x.natAbs 0 = s at *
          have hxa : x.natAbs < 9 := by omega
          have habs := fun W => impl_edgeOf x W (by omega) (by omega)
          generalize x.natAbs = xa at *
          have hxb : (xa : Int) < 9 := by omega
          have hxc : (0 : Int) ≤ (xa : Int) := by omega
          have Hput := Lib.hid hput; have Habs := Lib.hid habs
          clear hput hstep habs hx0 hx1 hx2 hx
          go_wp2_with fail
          refine (Habs.out _).mono ?_
          rintro e w1 ⟨rfl, rfl⟩
          go_wp2
          go_roundw
          case rel =>
            refine ⟨j + 1, by omega, by go_num, Lib.hid (hb.out.setCell (show N ≤ N + 1 by omega) _), Lib.hid ⟨hk.out.1.far (by show N ≠ N + 1; omega) _, ?_⟩⟩
            · have h := hk.out.2.put xa (.int .i64 (s + 1))
              rw [Hput.out] at h
              exact h
          case measure => simp [intOf]; omega
        · obtain rfl : j = r.length := by omega
          rw [Glue.upTo_next Hr.out] at hk
          go_wp2
          go_roundw
          case rel => exact ⟨i + 1, by omega, by go_num, hb.out, hk⟩
          case measure => simp [intOf]; omega
    · obtain rfl : i = L.length := by omega
      rw [Glue.upTo_all] at hk
      have hk1 : wr.heap[N]? = some (.cells (intCells (Glue.count [])).toArray 98 (0, 0)) := hk.out.1
      have hk2 : wr.heap[N + 1]? = some (.cells (intCells (Glue.uses L)).toArray 98 (0, 0)) := hk.out.2
      have hsz : (Try.prog.info? 98).map (·.size) = some (intCells (Glue.uses L)).toArray.size := by
        have h : (Try.prog.info? 98).map (·.size) = some 9 := by kernel_rfl
        rw [h]; simp [intCells_len, Glue.uses_len]
      have hold : (intCells (Glue.count [])).toArray.size = (intCells (Glue.uses L)).toArray.size := by simp [intCells_len, Glue.uses_len, Glue.count_len]
      have hall : (intCells (Glue.uses L)).toArray.all (·.oneCell') = true := by simp [intCells, Value.oneCell']
      generalize hY : (intCells (Glue.uses L)).toArray = Y at *
      have HY := Lib.hid hY
      clear hY
      have Hk1 := Lib.hid hk1; have Hk2 := Lib.hid hk2; have Hsz := Lib.hid hsz; have Hall := Lib.hid hall; have Hold := Lib.hid hold; have Hb := Lib.hid hb
      clear hk1 hk2 hsz hall hk hb hold
      go_upto_region 11 with fail
      apply wp_region_lit
      refine wpList_load_row rfl 98 (.tmp 3) rfl (N + 1) rfl 98 Y (0, 0) _ Hk2.out Try.underlying98 rfl Hsz.out ?_
      refine wpList_store_row rfl 98 (.tmp 2) (.tmp 28) rfl N Y rfl rfl 98 _ Hk1.out Hsz.out Hold.out Hall.out ?_
      apply wpList_nil
      have hb3 : Below N w (wr.setRow N Y) := ⟨Hb.out.os, Hb.out.tape, Hb.out.output, by rw [size_setRow]; exact Hb.out.size, fun k hk => (setRow_other wr N k Y (by omega)).trans (Hb.out.block k hk)⟩
      have hk3 : (wr.setRow N Y).heap[N]? = some (.cells Y 98 (0, 0)) := setRow_heap wr N _ Y 98 (0, 0) Hk1.out
      generalize wr.setRow N Y = w3 at *
      have Hb3 := Lib.hid hb3; have Hk3 := Lib.hid hk3
      clear hb3 hk3
      go_wp2
      exact bodyPost_ret (results_cell_row rfl _ _ N 98 Y (0, 0) _ rfl Hk3.out Try.underlying98 rfl Hsz.out) rfl ⟨by rw [HY.out], Hb3.out⟩
end Go.Proofs.Ytfaagbmaekoogaa
namespace Go.Proofs.Ytfaagbmaekoogaa
open Go.RowKit

theorem arr_index (l : List Int) (hl : l.length = 9) (k : Nat) (hk : k < 9) (w : World) :
    (Instr.index 98 (.agg (intCells l).toArray) (.int .i64 k)).run Try.prog w = .ok (.int .i64 (l.getD k 0)) w := by
  match l, hl with
  | [x0, x1, x2, x3, x4, x5, x6, x7, x8], _ =>
    match k, hk with
    | 0, _ => show _ = _; kernel_rfl
    | 1, _ => show _ = _; kernel_rfl
    | 2, _ => show _ = _; kernel_rfl
    | 3, _ => show _ = _; kernel_rfl
    | 4, _ => show _ = _; kernel_rfl
    | 5, _ => show _ = _; kernel_rfl
    | 6, _ => show _ = _; kernel_rfl
    | 7, _ => show _ = _; kernel_rfl
    | 8, _ => show _ = _; kernel_rfl

namespace Glue
theorem isG_uses {L : List (List Int)} (h1 : 1 ≤ L.length) (h2 : L.length ≤ 4) (h3 : ∀ p ∈ L, RowOk p) (h4 : sumLen L ≤ 20) : decide (IsG L) = decide (∀ n ∈ uses L, n ≤ 2) :=
  decide_eq_decide.2 ⟨fun h => h.2.2.2.2, fun h => ⟨h1, h2, h3, h4, h⟩⟩
theorem bad_use {L : List (List Int)} {k : Nat} (hk : k < 9) (h : ¬ (uses L).getD k 0 ≤ 2) : decide (IsG L) = false :=
  decide_eq_false fun hg => h (by
    have hk' : k < (uses L).length := by rw [uses_len]; exact hk
    rw [← uses_at k hk']; exact hg.2.2.2.2 _ (List.getElem_mem hk'))
theorem good_uses {L : List (List Int)} (h1 : 1 ≤ L.length) (h2 : L.length ≤ 4) (h3 : ∀ p ∈ L, RowOk p) (h4 : sumLen L ≤ 20) (h : ∀ k, k < 9 → (uses L).getD k 0 ≤ 2) : decide (IsG L) = true :=
  decide_eq_true ⟨h1, h2, h3, h4, all_small fun k hk h9 => by rw [uses_at k hk]; exact h k h9⟩
theorem not_len {L : List (List Int)} (h : ¬ (1 ≤ L.length ∧ L.length ≤ 4)) : decide (IsG L) = false := decide_eq_false fun hg => h ⟨hg.1, hg.2.1⟩
theorem not_sum {L : List (List Int)} (h : ¬ sumLen L ≤ 20) : decide (IsG L) = false := decide_eq_false fun hg => h hg.2.2.2.1
theorem sum_small {L : List (List Int)} {i : Nat} (h : ∀ j (hj : j < L.length), j < i → RowOk L[j]) : sumLen (L.take i) ≤ 24 * i := by
  induction i with
  | zero => simp [sumLen]
  | succ i ih =>
    have h1 := ih (fun j hj hji => h j hj (by omega))
    by_cases hlt : i < L.length
    · rw [sumLen_take hlt]
      have := (h i hlt (by omega)).2.2
      omega
    · rw [List.take_of_length_le (by omega)] at h1 ⊢
      omega
end Glue

set_option maxRecDepth 10000 in
set_option maxHeartbeats 1000000 in
theorem spec_IsGluing_big (a : Option Addr) (c : Nat) (L : List (List Int)) (w : World) (ha : GridAt w a L) (hln : L.length ≤ 2000000) (hsm : sumLen L ≤ 60000000) (hrw : ∀ r ∈ L, r.length ≤ 1048576) :
    Calls Try.prog 83 #[.slice a L.length c] w fun e w' => e = .returned (.bool (decide (Glue.IsG L))) ∧ Below w.heap.size w w' := by
  generalize hv : decide (Glue.IsG L) = v
  have Hv := Lib.hid hv
  have Ha := Lib.hid ha
  have HL := Lib.hid hsm; have Hrw := Lib.hid hrw
  clear hv ha hsm hrw
  go_enter Try.func83, Try.ntmps83
  go_wp2
  go_loopw [2, 3, 4] (fun rv sv iv wr => rv = .bool false ∧ ∃ i : Nat, i ≤ L.length ∧ iv = .int .i64 i ∧ sv = .int .i64 (sumLen (L.take i) : Nat) ∧ Hid (∀ j (hj : j < L.length), j < i → Glue.RowOk L[j]) ∧ Below w.heap.size w wr) (fun _ _ iv _ => L.length - (intOf iv).toNat)
  case atStart => exact ⟨rfl, 0, by omega, rfl, by simp [sumLen], Lib.hid (fun _ _ h => by omega), Below.refl _ _⟩
  case round =>
    obtain ⟨rfl, i, hi, rfl, rfl, hall, hb⟩ := hrel
    by_cases hlt : i < L.length
    · obtain ⟨r, hr⟩ := get_some hlt
      have hri : L[i] = r := by rw [List.getElem?_eq_getElem hlt] at hr; exact Option.some.inj hr
      obtain ⟨b, o, ai, ci, rfl, hbw, hcell, hrow⟩ := (Ha.out.below hb).get hr
      have hst := sumLen_take hlt
      have hle := len_le_sumLen hlt
      have hle2 := sumLen_le L (i + 1)
      have htl := HL.out
      have hr1 := Hrw.out r (get_mem hr)
      rw [hri] at hst hle
      have hbad := Glue.not_row hlt
      rw [hri] at hbad
      have hnext : Glue.RowOk r → ∀ j (hj : j < L.length), j < i + 1 → Glue.RowOk L[j] := fun h j hj h' => by
        rcases Nat.lt_or_ge j i with h2 | h2
        · exact hall.out j hj h2
        · obtain rfl : j = i := by omega
          rw [hri]; exact h
      have hcW := spec_IsWord ai ci r wr hrow hr1
      generalize sumLen (L.take i) = S at *
      generalize hS' : sumLen (L.take (i + 1)) = S' at *
      have hbd : S + r.length ≤ 60000000 := by omega
      have Hst := Lib.hid hst; have HS' := Lib.hid hS'; have Hbad := Lib.hid hbad; have Hnext := Lib.hid hnext; have Hri := Lib.hid hri
      clear hst hS' hbad hnext hri hr hrow
      by_cases h0 : r.length = 0
      · have hv : v = false := by rw [← Hv.out]; exact Hbad.out (fun h => h.1 (List.eq_nil_of_length_eq_zero h0))
        have Hf := Lib.hid hv; clear hv
        have h0' : ((r.length : Int) == 0) = true := by rw [h0]; rfl
        go_wp2
        go_ret
        exact ⟨by rw [Hf.out]; rfl, hb⟩
      · by_cases hW : Word.IsW r
        · rw [decide_eq_true hW] at hcW
          have Hcw := Lib.hid hcW; have HW := Lib.hid hW
          clear hcW hW
          go_wp2_with fail
          refine Hcw.out.mono ?_
          rintro e w1 ⟨rfl, hb1⟩
          have hcell1 : w1.cell? ⟨b, o + i, none⟩ = some (.slice ai r.length ci) := by rw [hb1.cell hbw]; exact hcell
          have Hb := Lib.hid hb; have Hb1 := Lib.hid hb1
          clear hb hb1 hcell
          go_wp2
          go_roundw
          case rel =>
            refine ⟨rfl, i + 1, by omega, by go_num, by rw [HS'.out, Hst.out]; congr 1, Lib.hid (Hnext.out ⟨fun e => h0 (by rw [e]; rfl), HW.out⟩), Hb.out.trans (Hb1.out.mono Hb.out.size)⟩
          case measure => simp [intOf]; omega
        · have hv : v = false := by rw [← Hv.out]; exact Hbad.out (fun h => hW h.2)
          have Hf := Lib.hid hv; clear hv
          rw [decide_eq_false hW] at hcW
          have Hcw := Lib.hid hcW; have HW := Lib.hid hW
          clear hcW hW
          go_wp2_with fail
          refine Hcw.out.mono ?_
          rintro e w1 ⟨rfl, hb1⟩
          have Hb := Lib.hid hb; have Hb1 := Lib.hid hb1
          clear hb hb1
          go_wp2
          go_ret
          exact ⟨by rw [Hf.out]; rfl, Hb.out.trans (Hb1.out.mono Hb.out.size)⟩
    · obtain rfl : i = L.length := by omega
      rw [sumLen_all]
      have hrows := Glue.rows_of hall.out
      have hsum := Glue.sum_small hall.out
      rw [sumLen_all] at hsum
      have Hrows := Lib.hid hrows
      have hin := spec_l1In (L.length : Nat) 1 4 wr
      clear hrows hall
      by_cases hlen : 1 ≤ L.length ∧ L.length ≤ 4
      · rw [decide_eq_true (by omega)] at hin
        have Hin := Lib.hid hin; clear hin
        by_cases hs : sumLen L ≤ 20
        · have hU := fun W (h : GridAt W a L) => spec_l3Uses a c L W h (fun p hp => (Hrows.out p hp).2) (by omega) (by omega)
          have HU := Lib.hid hU
          have hgood := Glue.good_uses hlen.1 hlen.2 Hrows.out hs
          have hbadu := fun k (hk : k < 9) => Glue.bad_use (L := L) hk
          have hulen := Glue.uses_len L
          generalize hS : sumLen L = S at *
          have Hgood := Lib.hid hgood; have Hbadu := Lib.hid hbadu; have Hlen := Lib.hid hlen
          clear hU hgood hbadu hS hsum hlen
          go_wp2_with fail
          refine Hin.out.mono ?_
          rintro e w1 ⟨rfl, rfl⟩
          go_wp2_with fail
          refine (HU.out w1 (Ha.out.below hb)).mono ?_
          rintro e w2 ⟨g, rfl, hg, hk, hb2⟩
          have Hk := Lib.hid hk; have Hb0 := Lib.hid hb; have Hb2 := Lib.hid hb2
          have hbw : Below w.heap.size w w2 := hb.trans (hb2.mono hb.size)
          generalize Glue.uses L = U at *
          have Hul := Lib.hid hulen
          clear hk hb hb2 hulen
          go_wp2
          go_loopw [2, 6] (fun rv kv wr => rv = .bool false ∧ ∃ k : Nat, k ≤ 9 ∧ kv = .int .i64 k ∧ wr = w2 ∧ Hid (∀ j, j < k → U.getD j 0 ≤ 2)) (fun _ kv _ => 9 - (intOf kv).toNat)
          case atStart => exact ⟨rfl, 0, by omega, rfl, rfl, Lib.hid (fun _ h => by omega)⟩
          case round =>
            obtain ⟨rfl, k, hk9, rfl, rfl, hall⟩ := hrel
            by_cases hkt : k < 9
            · have hcu := ints_cell Hk.out (j := k) (by rw [Hul.out]; exact hkt)
              have hbu := Hbadu.out k hkt
              generalize hx : U.getD k 0 = x at *
              have Hx := Lib.hid hx; have Hbu := Lib.hid hbu
              clear hx hbu
              have hkc : (k : Int) < 9 := by omega
              by_cases h2 : x ≤ 2
              · go_wp2
                go_roundw
                case rel => exact ⟨rfl, k + 1, by omega, by go_num, trivial, Lib.hid (fun j hj => by
                  rcases Nat.lt_or_ge j k with h' | h'
                  · exact hall.out j h'
                  · obtain rfl : j = k := by omega
                    rw [Hx.out]; exact h2)⟩
                case measure => simp [intOf]; omega
              · have hv : v = false := by rw [← Hv.out]; exact Hbu.out (by omega)
                have Hf := Lib.hid hv; clear hv
                go_wp2
                go_ret
                exact ⟨by rw [Hf.out]; rfl, hbw⟩
            · obtain rfl : k = 9 := by omega
              have hv : v = true := by rw [← Hv.out]; exact Hgood.out hall.out
              have Hf := Lib.hid hv; clear hv
              go_wp2
              go_ret
              exact ⟨by rw [Hf.out]; rfl, hbw⟩
        · have hv : v = false := by rw [← Hv.out]; exact Glue.not_sum hs
          have Hf := Lib.hid hv; clear hv
          generalize hS : sumLen L = S at *
          have hsb : S ≤ 1000000 := by omega
          clear hS hsum
          go_wp2_with fail
          refine Hin.out.mono ?_
          rintro e w1 ⟨rfl, rfl⟩
          go_wp2
          go_ret
          exact ⟨by rw [Hf.out]; rfl, hb⟩
      · have hv : v = false := by rw [← Hv.out]; exact Glue.not_len hlen
        have Hf := Lib.hid hv
        rw [decide_eq_false (by omega)] at hin
        have Hin := Lib.hid hin
        clear hin hv
        go_wp2_with fail
        refine Hin.out.mono ?_
        rintro e w1 ⟨rfl, rfl⟩
        go_wp2
        go_ret
        exact ⟨by rw [Hf.out]; rfl, hb⟩

set_option maxRecDepth 10000 in
set_option maxHeartbeats 1000000 in
theorem impl_IsGluing_big (a : Option Addr) (c : Nat) (L : List (List Int)) (w : World) (ha : GridAt w a L) (hln : L.length ≤ 2000000) (hsm : sumLen L ≤ 60000000) (hrw : ∀ r ∈ L, r.length ≤ 1048576) :
    Calls Try.prog 88 #[.slice a L.length c] w fun e w' => e = .returned (.bool (decide (Glue.IsG L))) ∧ Below w.heap.size w w' := by
  generalize hv : decide (Glue.IsG L) = v
  have Hv := Lib.hid hv
  have Ha := Lib.hid ha
  have HL := Lib.hid hsm; have Hrw := Lib.hid hrw
  clear hv ha hsm hrw
  by_cases hz : L.length = 0
  · have hv : v = false := by rw [← Hv.out]; exact Glue.not_len (by omega)
    have Hf := Lib.hid hv; clear hv
    have hz' : ((L.length : Int) == 0) = true := by rw [hz]; rfl
    go_enter Try.func88, Try.ntmps88
    go_wp2
    go_ret
    exact ⟨by rw [Hf.out]; rfl, Below.refl _ _⟩
  by_cases h4 : 4 < L.length
  · have hv : v = false := by rw [← Hv.out]; exact Glue.not_len (by omega)
    have Hf := Lib.hid hv; clear hv
    go_enter Try.func88, Try.ntmps88
    go_wp2
    go_ret
    exact ⟨by rw [Hf.out]; rfl, Below.refl _ _⟩
  have hz' : ((L.length : Int) == 0) = false := beq_eq_false_iff_ne.2 (by omega)
  have h4' : ¬ ((4 : Int) < (L.length : Int)) := by omega
  go_enter Try.func88, Try.ntmps88
  go_wp2
  clear hz'
  go_loopw [2, 3, 5, 18] (fun rv sv _ iv wr => rv = .bool false ∧ ∃ i : Nat, i ≤ L.length ∧ iv = .int .i64 i ∧ sv = .int .i64 (sumLen (L.take i) : Nat) ∧ Hid (∀ j (hj : j < L.length), j < i → Glue.RowOk L[j]) ∧ Below w.heap.size w wr) (fun _ _ _ iv _ => L.length - (intOf iv).toNat)
  case atStart => exact ⟨rfl, 0, by omega, rfl, by simp [sumLen], Lib.hid (fun _ _ h => by omega), Below.refl _ _⟩
  case round =>
    obtain ⟨rfl, i, hi, rfl, rfl, hall, hb⟩ := hrel
    by_cases hlt : i < L.length
    · obtain ⟨r, hr⟩ := get_some hlt
      have hri : L[i] = r := by rw [List.getElem?_eq_getElem hlt] at hr; exact Option.some.inj hr
      obtain ⟨b, o, ai, ci, rfl, hbw, hcell, hrow⟩ := (Ha.out.below hb).get hr
      have hst := sumLen_take hlt
      have hle := len_le_sumLen hlt
      have hle2 := sumLen_le L (i + 1)
      have htl := HL.out
      have hr1 := Hrw.out r (get_mem hr)
      rw [hri] at hst hle
      have hbad := Glue.not_row hlt
      rw [hri] at hbad
      have hnext : Glue.RowOk r → ∀ j (hj : j < L.length), j < i + 1 → Glue.RowOk L[j] := fun h j hj h' => by
        rcases Nat.lt_or_ge j i with h2 | h2
        · exact hall.out j hj h2
        · obtain rfl : j = i := by omega
          rw [hri]; exact h
      have hcW := impl_IsWord ai ci r wr hrow hr1
      generalize sumLen (L.take i) = S at *
      generalize hS' : sumLen (L.take (i + 1)) = S' at *
      have hbd : S + r.length ≤ 60000000 := by omega
      have Hst := Lib.hid hst; have HS' := Lib.hid hS'; have Hbad := Lib.hid hbad; have Hnext := Lib.hid hnext; have Hri := Lib.hid hri
      clear hst hS' hbad hnext hri hr hrow
      by_cases h0 : r.length = 0
      · have hv : v = false := by rw [← Hv.out]; exact Hbad.out (fun h => h.1 (List.eq_nil_of_length_eq_zero h0))
        have Hf := Lib.hid hv; clear hv
        have h0' : ((r.length : Int) == 0) = true := by rw [h0]; rfl
        go_wp2
        go_ret
        exact ⟨by rw [Hf.out]; rfl, hb⟩
      · by_cases hW : Word.IsW r
        · rw [decide_eq_true hW] at hcW
          have Hcw := Lib.hid hcW; have HW := Lib.hid hW
          clear hcW hW
          go_wp2_with fail
          refine Hcw.out.mono ?_
          rintro e w1 ⟨rfl, hb1⟩
          have Hb := Lib.hid hb; have Hb1 := Lib.hid hb1
          clear hb hb1 hcell
          go_wp2
          go_roundw
          case rel =>
            refine ⟨rfl, i + 1, by omega, by go_num, by rw [HS'.out, Hst.out]; congr 1, Lib.hid (Hnext.out ⟨fun e => h0 (by rw [e]; rfl), HW.out⟩), Hb.out.trans (Hb1.out.mono Hb.out.size)⟩
          case measure => simp [intOf]; omega
        · have hv : v = false := by rw [← Hv.out]; exact Hbad.out (fun h => hW h.2)
          have Hf := Lib.hid hv; clear hv
          rw [decide_eq_false hW] at hcW
          have Hcw := Lib.hid hcW; have HW := Lib.hid hW
          clear hcW hW
          go_wp2_with fail
          refine Hcw.out.mono ?_
          rintro e w1 ⟨rfl, hb1⟩
          have Hb := Lib.hid hb; have Hb1 := Lib.hid hb1
          clear hb hb1
          go_wp2
          go_ret
          exact ⟨by rw [Hf.out]; rfl, Hb.out.trans (Hb1.out.mono Hb.out.size)⟩
    · obtain rfl : i = L.length := by omega
      rw [sumLen_all]
      have hrows := Glue.rows_of hall.out
      have hsum := Glue.sum_small hall.out
      rw [sumLen_all] at hsum
      have Hrows := Lib.hid hrows
      clear hrows hall
      by_cases hs : sumLen L ≤ 20
      · have hU := fun W (h : GridAt W a L) => impl_countLetters a c L W h (fun p hp => (Hrows.out p hp).2) (by omega) (by omega)
        have HU := Lib.hid hU
        have hgood := Glue.good_uses (L := L) (by omega) (by omega) Hrows.out hs
        have hbadu := fun k (hk : k < 9) => Glue.bad_use (L := L) hk
        have hix := fun k (hk : k < 9) W => arr_index (Glue.uses L) (Glue.uses_len L) k hk W
        generalize hS : sumLen L = S at *
        have Hgood := Lib.hid hgood; have Hbadu := Lib.hid hbadu; have Hix := Lib.hid hix
        clear hU hgood hbadu hS hsum hix
        go_wp2_with fail
        refine (HU.out wr (Ha.out.below hb)).mono ?_
        rintro e w2 ⟨rfl, hb2⟩
        have Hb2 := Lib.hid hb2
        have hbw : Below w.heap.size w w2 := hb.trans (hb2.mono hb.size)
        generalize Glue.uses L = U at *
        clear hb hb2
        go_wp2
        go_loopw [2, 7, 39] (fun rv _ kv wr => rv = .bool false ∧ ∃ k : Nat, k ≤ 9 ∧ kv = .int .i64 k ∧ wr = w2 ∧ Hid (∀ j, j < k → U.getD j 0 ≤ 2)) (fun _ _ kv _ => 9 - (intOf kv).toNat)
        case atStart => exact ⟨rfl, 0, by omega, rfl, rfl, Lib.hid (fun _ h => by omega)⟩
        case round =>
          obtain ⟨rfl, k, hk9, rfl, rfl, hall⟩ := hrel
          by_cases hkt : k < 9
          · have hix := Hix.out k hkt wr
            have hbu := Hbadu.out k hkt
            generalize hx : U.getD k 0 = x at *
            have Hx := Lib.hid hx; have Hbu := Lib.hid hbu
            clear hx hbu
            have hkc : (k : Int) < 9 := by omega
            by_cases h2 : x ≤ 2
            · go_wp2
              go_roundw
              case rel => exact ⟨rfl, k + 1, by omega, by go_num, trivial, Lib.hid (fun j hj => by
                rcases Nat.lt_or_ge j k with h' | h'
                · exact hall.out j h'
                · obtain rfl : j = k := by omega
                  rw [Hx.out]; exact h2)⟩
              case measure => simp [intOf]; omega
            · have hv : v = false := by rw [← Hv.out]; exact Hbu.out (by omega)
              have Hf := Lib.hid hv; clear hv
              go_wp2
              go_ret
              exact ⟨by rw [Hf.out]; rfl, hbw⟩
          · obtain rfl : k = 9 := by omega
            have hv : v = true := by rw [← Hv.out]; exact Hgood.out hall.out
            have Hf := Lib.hid hv; clear hv
            go_wp2
            go_ret
            exact ⟨by rw [Hf.out]; rfl, hbw⟩
      · have hv : v = false := by rw [← Hv.out]; exact Glue.not_sum hs
        have Hf := Lib.hid hv; clear hv
        generalize hS : sumLen L = S at *
        have hsb : S ≤ 1000000 := by omega
        clear hS hsum
        go_wp2
        go_ret
        exact ⟨by rw [Hf.out]; rfl, hb⟩
theorem tot_parts {L : List (List Int)} (hl : tot L ≤ 1048576) : L.length ≤ 2000000 ∧ sumLen L ≤ 60000000 ∧ ∀ r ∈ L, r.length ≤ 1048576 := by
  unfold tot at hl
  refine ⟨by omega, by omega, fun r hr => ?_⟩
  obtain ⟨i, hi, rfl⟩ := List.mem_iff_getElem.1 hr
  have := len_le_sumLen hi
  omega
theorem spec_IsGluing (a : Option Addr) (c : Nat) (L : List (List Int)) (w : World) (ha : GridAt w a L) (hl : tot L ≤ 1048576) :
    Calls Try.prog 83 #[.slice a L.length c] w fun e w' => e = .returned (.bool (decide (Glue.IsG L))) ∧ Below w.heap.size w w' :=
  spec_IsGluing_big a c L w ha (tot_parts hl).1 (tot_parts hl).2.1 (tot_parts hl).2.2
theorem impl_IsGluing (a : Option Addr) (c : Nat) (L : List (List Int)) (w : World) (ha : GridAt w a L) (hl : tot L ≤ 1048576) :
    Calls Try.prog 88 #[.slice a L.length c] w fun e w' => e = .returned (.bool (decide (Glue.IsG L))) ∧ Below w.heap.size w w' :=
  impl_IsGluing_big a c L w ha (tot_parts hl).1 (tot_parts hl).2.1 (tot_parts hl).2.2
end Go.Proofs.Ytfaagbmaekoogaa
namespace Go.Proofs.Ytfaagbmaekoogaa
open Go.RowKit

/-- A struct of three integers. -/
def agg3 (x y z : Int) : Value := .agg #[.int .i64 x, .int .i64 y, .int .i64 z]



/-- A block that holds three integers. -/
theorem box3 {w w1 : World} {B : Nat} {t : TypeId} {x y z : Int} (hb : Below B (w.alloc (.cells #[.int .i64 x, .int .i64 y, .int .i64 z] t)) w1) (hB : w.heap.size < B) : Blk w1 w.heap.size t #[.int .i64 x, .int .i64 y, .int .i64 z] :=
  (Blk.new w t _).below hb hB
theorem Blk.three {w : World} {g : Nat} {t : TypeId} {x y z : Int} (h : Blk w g t #[.int .i64 x, .int .i64 y, .int .i64 z]) :
    w.cell? ⟨g, 0, none⟩ = some (.int .i64 x) ∧ w.cell? ⟨g, 1, none⟩ = some (.int .i64 y) ∧ w.cell? ⟨g, 2, none⟩ = some (.int .i64 z) := ⟨h.cell 0, h.cell 1, h.cell 2⟩
namespace Surf
def Is (x y z : Int) : Prop := (0 ≤ x ∧ x ≤ 20) ∧ (0 ≤ y ∧ y ≤ 20) ∧ (0 ≤ z ∧ z ≤ 20) ∧ (x = 0 ∨ y = 0)
instance (x y z : Int) : Decidable (Is x y z) := by unfold Is; exact inferInstance
def euler (x y z : Int) : Int := if Is x y z then 2 - 2 * x - y - z else -100
end Surf



namespace Surf
/-- A surface, and whether it is one; the zero one if not. -/
def right (s : Int × Int × Int) : Int × Int × Int := if Is s.1 s.2.1 s.2.2 then s else (0, 0, 0)
end Surf
/-- The call gives this struct and a bool. -/
def GivesS (w : World) (s : Int × Int × Int) (b : Bool) (e : Ending) (w' : World) : Prop := e = .returned (.tuple #[.agg #[.int .i64 s.1, .int .i64 s.2.1, .int .i64 s.2.2], .bool b]) ∧ Below w.heap.size w w'

end Go.Proofs.Ytfaagbmaekoogaa
namespace Go.Proofs.Ytfaagbmaekoogaa
open Go.RowKit

theorem Blk.six {w : World} {g : Nat} {t : TypeId} {x y z : Int} (h : Blk w g t #[.int .i64 x, .int .i64 y, .int .i64 z]) :
    w.cell? ⟨g, 0, none⟩ = some (.int .i64 x) ∧ w.cell? ⟨g, 1, none⟩ = some (.int .i64 y) ∧ w.cell? ⟨g, 2, none⟩ = some (.int .i64 z) ∧
      w.frozen? ⟨g, 0, none⟩ = false ∧ w.frozen? ⟨g, 1, none⟩ = false ∧ w.frozen? ⟨g, 2, none⟩ = false := ⟨h.cell 0, h.cell 1, h.cell 2, h.frozen 0, h.frozen 1, h.frozen 2⟩
theorem Blk.put3 {w : World} {g : Nat} {t : TypeId} {a b c x y z : Value} (h : Blk w g t #[a, b, c]) : Blk (((w.setCell ⟨g, 0, none⟩ x).setCell ⟨g, 1, none⟩ y).setCell ⟨g, 2, none⟩ z) g t #[x, y, z] :=
  ((h.put 0 x).put 1 y).put 2 z
theorem Blk.new' {w : World} {N : Nat} (hN : w.heap.size = N) (t : TypeId) (cs : Array Value) : Blk (w.alloc (.cells cs t)) N t cs := by subst hN; exact Blk.new w t cs
theorem size1 {w : World} {N : Nat} (hN : w.heap.size = N) (o : Obj) : (w.alloc o).heap.size = N + 1 := by subst hN; simp
theorem Below.put3 {N g : Nat} {w w1 : World} (h : Below N w w1) (hg : N ≤ g) (x y z : Value) : Below N w (((w1.setCell ⟨g, 0, none⟩ x).setCell ⟨g, 1, none⟩ y).setCell ⟨g, 2, none⟩ z) :=
  ((h.setCell hg x).setCell hg y).setCell hg z
theorem Blk.far3 {w : World} {g k : Nat} {t : TypeId} {cs : Array Value} (h : Blk w g t cs) (hk : g ≠ k) (x y z : Value) : Blk (((w.setCell ⟨k, 0, none⟩ x).setCell ⟨k, 1, none⟩ y).setCell ⟨k, 2, none⟩ z) g t cs :=
  ((h.far (p := ⟨k, 0, none⟩) hk x).far (p := ⟨k, 1, none⟩) hk y).far (p := ⟨k, 2, none⟩) hk z

namespace Surf
theorem is_b (x y z : Int) : decide (Is x y z) = ((!(decide (0 < x) && decide (0 < y))) && (decide (0 ≤ x ∧ x ≤ 20) && (decide (0 ≤ y ∧ y ≤ 20) && decide (0 ≤ z ∧ z ≤ 20)))) := by
  by_cases h1 : 0 < x
  · by_cases h2 : 0 < y
    · rw [decide_eq_true h1, decide_eq_true h2, decide_eq_false (fun h : Is x y z => by unfold Is at h; omega)]; rfl
    · rw [decide_eq_true h1, decide_eq_false h2, Bool.eq_iff_iff, decide_eq_true_iff]; simp only [Bool.not_false, Bool.and_false, Bool.false_and, Bool.true_and, Bool.and_eq_true, decide_eq_true_eq]; exact ⟨fun h => ⟨h.1, h.2.1, h.2.2.1⟩, fun h => ⟨h.1, h.2.1, h.2.2, by have := h.1; have := h.2.1; omega⟩⟩
  · rw [decide_eq_false h1, Bool.eq_iff_iff, decide_eq_true_iff]; simp only [Bool.not_false, Bool.and_false, Bool.false_and, Bool.true_and, Bool.and_eq_true, decide_eq_true_eq]; exact ⟨fun h => ⟨h.1, h.2.1, h.2.2.1⟩, fun h => ⟨h.1, h.2.1, h.2.2, by have := h.1; have := h.2.1; omega⟩⟩
end Surf




theorem results_cell_tmp {P : Program} {fn : Func} {p q : Tmp} {ty : TypeId} (h : fn.results = #[.cell p ty, .tmp q]) (tmps : Array Value) (w : World) (g : Nat) (t : TypeId) (cs : Array Value) (fr : Nat × Nat) (d : TypeDesc)
    (hp : tmps.getD p undef = .pointer (some ⟨g, 0, none⟩)) (hg : w.heap[g]? = some (.cells cs t fr))
    (hu : P.underlying ty = some d) (hd : (match d with | .struct _ | .array _ _ => true | _ => false) = true) (hi : (P.info? ty).map (·.size) = some cs.size) :
    (results fn tmps).run P w = .ok (.tuple #[.agg cs, tmps.getD q undef]) w := by
  have hp' : tmps[p]?.getD undef = .pointer (some ⟨g, 0, none⟩) := by simpa using hp
  simp [results, h, hp', asAddr, run_loadVar_row w g t ty cs fr d hg hu hd hi]




end Go.Proofs.Ytfaagbmaekoogaa
namespace Go.Proofs.Ytfaagbmaekoogaa
open Go.RowKit

/-- Three blocks that a call's frame has laid, behind the first callee. -/
theorem Blk.of3 {w w1 : World} {N M : Nat} {t : TypeId} {A B C : Array Value} (hN : w.heap.size = N) (hb : Below M (((w.alloc (.cells A t)).alloc (.cells B t)).alloc (.cells C t)) w1) (hM : M = N + 3) :
    Blk w1 N t A ∧ Blk w1 (N + 1) t B ∧ Blk w1 (N + 1 + 1) t C ∧ Below N w w1 := by
  subst hM
  have s1 := size1 hN (.cells A t)
  have s2 := size1 s1 (.cells B t)
  have h0 : Below N w (((w.alloc (.cells A t)).alloc (.cells B t)).alloc (.cells C t)) := by
    have h := (((Below.refl w.heap.size w).alloc (Nat.le_refl _) (.cells A t)).alloc (by simp) (.cells B t)).alloc (by simp; omega) (.cells C t)
    rwa [hN] at h
  exact ⟨(((Blk.new' hN t A).alloc _).alloc _).below hb (by omega), ((Blk.new' s1 t B).alloc _).below hb (by omega), (Blk.new' s2 t C).below hb (by omega), h0.trans (hb.mono (by omega))⟩
/-- One block. -/
theorem Blk.of1 {w w1 : World} {N M : Nat} {t : TypeId} {A : Array Value} (hN : w.heap.size = N) (hb : Below M (w.alloc (.cells A t)) w1) (hM : M = N + 1) : Blk w1 N t A ∧ Below N w w1 := by
  subst hM
  have h0 : Below N w (w.alloc (.cells A t)) := by
    have h := (Below.refl w.heap.size w).alloc (Nat.le_refl _) (.cells A t)
    rwa [hN] at h
  exact ⟨(Blk.new' hN t A).below hb (by omega), h0.trans (hb.mono (by omega))⟩
/-- Two blocks. -/
theorem Blk.of2 {w w1 : World} {N M : Nat} {t : TypeId} {A B : Array Value} (hN : w.heap.size = N) (hb : Below M ((w.alloc (.cells A t)).alloc (.cells B t)) w1) (hM : M = N + 2) :
    Blk w1 N t A ∧ Blk w1 (N + 1) t B ∧ Below N w w1 := by
  subst hM
  have s1 := size1 hN (.cells A t)
  have h0 : Below N w ((w.alloc (.cells A t)).alloc (.cells B t)) := by
    have h := ((Below.refl w.heap.size w).alloc (Nat.le_refl _) (.cells A t)).alloc (by simp) (.cells B t)
    rwa [hN] at h
  exact ⟨((Blk.new' hN t A).alloc _).below hb (by omega), (Blk.new' s1 t B).below hb (by omega), h0.trans (hb.mono (by omega))⟩

theorem below_lay {N : Nat} {w w2 w3 : World} {o : Obj} (hl : Below N w w2) (hN : N ≤ w2.heap.size) (hb : Below (w2.alloc o).heap.size (w2.alloc o) w3) : Below N w w3 :=
  hl.trans ((((Below.refl w2.heap.size w2).alloc (Nat.le_refl _) o).trans (hb.mono (by simp))).mono hN)

theorem below_put3 {N g : Nat} {w w1 : World} (h : Below N w w1) (hg : N ≤ g) (x y z : Value) : Below N w (((w1.setCell ⟨g, 0, none⟩ x).setCell ⟨g, 1, none⟩ y).setCell ⟨g, 2, none⟩ z) :=
  ((h.setCell hg x).setCell hg y).setCell hg z
namespace Surf
def mix (x y z p q r : Int) : Int × Int × Int := if 0 < y + q then (0, y + q + 2 * (x + p), z + r) else (x + p, y + q, z + r)
def sumOk (x y z p q r : Int) : Prop := Is x y z ∧ Is p q r ∧ Is (mix x y z p q r).1 (mix x y z p q r).2.1 (mix x y z p q r).2.2
instance (x y z p q r : Int) : Decidable (sumOk x y z p q r) := by unfold sumOk; exact inferInstance
def sum (x y z p q r : Int) : Int × Int × Int := if sumOk x y z p q r then mix x y z p q r else (0, 0, 0)
theorem sum_of {x y z p q r : Int} (hs : Is x y z) (ht : Is p q r) : sum x y z p q r = right (mix x y z p q r) ∧ decide (sumOk x y z p q r) = decide (Is (mix x y z p q r).1 (mix x y z p q r).2.1 (mix x y z p q r).2.2) := by
  have e : sumOk x y z p q r ↔ Is (mix x y z p q r).1 (mix x y z p q r).2.1 (mix x y z p q r).2.2 := ⟨fun h => h.2.2, fun h => ⟨hs, ht, h⟩⟩
  refine ⟨?_, decide_eq_decide.2 e⟩
  unfold sum right
  by_cases h : Is (mix x y z p q r).1 (mix x y z p q r).2.1 (mix x y z p q r).2.2
  · rw [if_pos h, if_pos (e.2 h)]
  · rw [if_neg h, if_neg (fun k => h (e.1 k))]
theorem sum_not {x y z p q r : Int} (h : ¬ (Is x y z ∧ Is p q r)) : sum x y z p q r = (0, 0, 0) ∧ decide (sumOk x y z p q r) = false := by
  have e : ¬ sumOk x y z p q r := fun k => h ⟨k.1, k.2.1⟩
  exact ⟨if_neg e, decide_eq_false e⟩
end Surf

end Go.Proofs.Ytfaagbmaekoogaa
namespace Go.Proofs.Ytfaagbmaekoogaa
open Go.RowKit

theorem ints_one (l : List Int) : ∀ u ∈ intCells l, u.oneCell' = true := by
  intro u hu
  simp only [intCells, List.mem_map] at hu
  obtain ⟨x, _, rfl⟩ := hu
  rfl
theorem grid_one {w : World} {N c n K : Nat} {a : Option Addr} {l : List Int} (hf : Fresh w N 3 a (intCells l)) (hN : N ≤ w.heap.size) (hn : l.length = n) (hK : w.heap.size = K) (hlc : n ≤ c) :
    GridIn (w.alloc (.cells #[.slice a n c] 42)) N (w.alloc (.cells #[.slice a n c] 42)).heap.size (some ⟨K, 0, none⟩) [l] := by
  subst hn; subst hK
  rw [show (w.alloc (.cells #[.slice a l.length c] 42)).heap.size = w.heap.size + 1 from by simp]
  exact grid_single hf hN hlc
theorem int_append (l m : List Int) : intCells (l ++ m) = intCells l ++ intCells m := by simp [intCells]
namespace Surf
/-- The sides of the first i handles; of i crosscaps and of i borders, whose first letter is s. -/
def hs (i : Nat) : List Int := (List.range i).flatMap fun (k : Nat) => [1 + 2 * (k : Int), 1 + 2 * (k : Int) + 1, -(1 + 2 * (k : Int)), -(1 + 2 * (k : Int)) - 1]
def cs (s : Int) (i : Nat) : List Int := (List.range i).flatMap fun (k : Nat) => [s + 1 * (k : Int), s + 1 * (k : Int)]
def bs (s : Int) (i : Nat) : List Int := (List.range i).flatMap fun (k : Nat) => [s + 2 * (k : Int), s + 2 * (k : Int) + 1, -(s + 2 * (k : Int))]
theorem hs_snoc (i : Nat) : hs (i + 1) = hs i ++ [1 + 2 * (i : Int), 1 + 2 * (i : Int) + 1, -(1 + 2 * (i : Int)), -(1 + 2 * (i : Int)) - 1] := by unfold hs; rw [List.range_succ, List.flatMap_append]; simp
theorem cs_snoc (s : Int) (i : Nat) : cs s (i + 1) = cs s i ++ [s + 1 * (i : Int), s + 1 * (i : Int)] := by unfold cs; rw [List.range_succ, List.flatMap_append]; simp
theorem bs_snoc (s : Int) (i : Nat) : bs s (i + 1) = bs s i ++ [s + 2 * (i : Int), s + 2 * (i : Int) + 1, -(s + 2 * (i : Int))] := by unfold bs; rw [List.range_succ, List.flatMap_append]; simp
theorem hs_len (i : Nat) : (hs i).length = 4 * i := by
  induction i with
  | zero => rfl
  | succ i ih => rw [hs_snoc, List.length_append, ih]; simp; omega
theorem cs_len (s : Int) (i : Nat) : (cs s i).length = 2 * i := by
  induction i with
  | zero => rfl
  | succ i ih => rw [cs_snoc, List.length_append, ih]; simp; omega
theorem bs_len (s : Int) (i : Nat) : (bs s i).length = 3 * i := by
  induction i with
  | zero => rfl
  | succ i ih => rw [bs_snoc, List.length_append, ih]; simp; omega
def poly (h c b : Nat) : List Int := hs h ++ cs (1 + 2 * (h : Int)) c ++ bs (1 + 2 * (h : Int) + (c : Int)) b
theorem poly_len (h c b : Nat) : (poly h c b).length = 4 * h + 2 * c + 3 * b := by unfold poly; rw [List.length_append, List.length_append, hs_len, cs_len, bs_len]
def side (h c b : Nat) : List Int := if h = 0 ∧ c = 0 ∧ b = 0 then [1, -1] else poly h c b
/-- The standard gluing, if the letters are enough. -/
def stdOk (x y z : Int) : Prop := Is x y z ∧ 2 * x + y + 2 * z ≤ 8
instance (x y z : Int) : Decidable (stdOk x y z) := by unfold stdOk; exact inferInstance
def std (x y z : Int) : List (List Int) := if stdOk x y z then [side x.toNat y.toNat z.toNat] else []
theorem std_tot (x y z : Int) : tot (std x y z) ≤ 1000000 := by
  unfold std
  by_cases h : stdOk x y z
  · rw [if_pos h]
    obtain ⟨⟨⟨_, _⟩, ⟨_, _⟩, ⟨_, _⟩, _⟩, h8⟩ := h
    have hl : (side x.toNat y.toNat z.toNat).length ≤ 100 := by
      unfold side; split
      · simp
      · rw [poly_len]; omega
    unfold tot; rw [sumLen_flat]
    simp only [List.flatten_cons, List.flatten_nil, List.append_nil, List.length_singleton]
    omega
  · rw [if_neg h]; decide
end Surf

set_option maxRecDepth 10000 in
set_option maxHeartbeats 4000000 in
theorem impl_standardPolygon (h c b : Nat) (w : World) (hh : h ≤ 20) (hc : c ≤ 20) (hb : b ≤ 20) :
    Calls Try.prog 128 #[.agg #[.int .i64 (h : Int), .int .i64 (c : Int), .int .i64 (b : Int)]] w fun e w' => Gives w (Surf.poly h c b) e w' := by
  obtain ⟨i0, hi0, hz0, hz1, hz2⟩ := info_int_parts
  have Hi0 := Lib.hid hi0; have Hz0 := Lib.hid hz0; have Hz1 := Lib.hid hz1; have Hz2 := Lib.hid hz2
  clear hi0 hz0 hz1 hz2
  generalize hN : w.heap.size = N at *
  have HN := Lib.hid hN
  go_enter Try.func128, Try.ntmps128
  obtain ⟨hA, hl⟩ := Blk.of1 hN (Below.refl (N + 1) (w.alloc (.cells #[.int .i64 (h : Int), .int .i64 (c : Int), .int .i64 (b : Int)] 92))) rfl
  have HA := Lib.hid hA; have Hl := Lib.hid hl; clear hA hl
  go_wp2
  go_loopw [3, 4, 7] (fun ov xv iv wr => ∃ i : Nat, ∃ X : Int, i ≤ h ∧ iv = .int .i64 (i : Int) ∧ xv = .int .i64 X ∧ X = 1 + 2 * (i : Int) ∧ Below N w wr ∧ Blk wr N 92 #[.int .i64 (h : Int), .int .i64 (c : Int), .int .i64 (b : Int)] ∧ wr.ownsRow (N + 1) 3 1 ov (4 * i) (intCells (Surf.hs i))) (fun _ _ iv _ => (h - intOf iv).toNat)
  case atStart => exact ⟨0, 1, Nat.zero_le _, rfl, rfl, rfl, Hl.out, HA.out, ⟨by simp [intCells, Surf.hs], Or.inl ⟨rfl, by simp [intCells, Surf.hs]⟩⟩⟩
  case round =>
    obtain ⟨i, X, hi, rfl, rfl, hX, hb, hbox, hown⟩ := hrel
    have hNle : N + 1 ≤ wr.heap.size := hbox.lt
    obtain ⟨_, _, _, _, _, _⟩ := hbox.six
    have Hbox := Lib.hid hbox; clear hbox
    by_cases hlt : i < h
    · have Hst := Lib.hid (Surf.hs_snoc i)
      have dlt : decide ((i : Int) < (h : Int)) = true := decide_eq_true (by omega)
      have hx0 : 1 ≤ X := by omega
      have hx1 : X ≤ 1000 := by omega
      have HX := Lib.hid hX
      have Hb := Lib.hid hb; have Hlt := Lib.hid hlt; clear hb hlt
      have hc1 : (4 * i) + 4 ≤ maxLen := by unfold maxLen; omega
      have hc2 : ((4 * i) + 4) * 8 ≤ 140737488355328 := by omega
      have Hln := Lib.hid (show (4 * i) + 4 = (4 * (i + 1)) by omega)
      clear hX
      obtain ⟨av, cv, rfl⟩ := own_len hown
      go_wp2_with (at_builtin; refine append_lits [.int .i64 X, .int .i64 (X + 1), .int .i64 (-X), .int .i64 (-X - 1)] 4 rfl rfl (.tmp 9) (.tmp 18) 42 rfl (N + 1) 3 i0 _ 8 Try.underlying42 Hi0.out Hz0.out Hz1.out Hz2.out (by rfl) _ _ _ rfl hown (ints_one [X, X + 1, -X, -X - 1]) _ rfl hc1 hc2 hNle ?_; intro v1 w1 hown1 hg1)
      go_roundw
      case rel =>
        refine ⟨i + 1, X + 2, by have := Hlt.out; omega, by go_num, rfl, ?_, Below.grown (Hb.out.alloc (by omega) _) hg1 (by simp; omega) (fun k hk => by have := (hown.lt k hk).1; omega), (Hbox.out.alloc _).grown hg1 (fun e => by have := (hown.lt _ e.symm).1; omega), ?_⟩
        · have := HX.out; rw [this, Int.natCast_add, Int.mul_add]; omega
        · have hX := HX.out; rw [Hst.out, ← Hln.out, int_append]; subst hX; exact hown1
      case measure => have := Hlt.out; simp [intOf] <;> omega
    · have hin : h = i := by omega
      subst hin
      have dlt : decide ((h : Int) < (h : Int)) = false := decide_eq_false (by omega)
      clear hlt hi
      have Hown := Lib.hid hown; have Hb := Lib.hid hb; clear hown hb
      have HX := Lib.hid hX; clear hX
      go_wp2
      go_loopw [3, 4, 25] (fun ov xv iv wr => ∃ i : Nat, ∃ X : Int, i ≤ c ∧ iv = .int .i64 (i : Int) ∧ xv = .int .i64 X ∧ X = (1 + 2 * (h : Int)) + 1 * (i : Int) ∧ Below N w wr ∧ Blk wr N 92 #[.int .i64 (h : Int), .int .i64 (c : Int), .int .i64 (b : Int)] ∧ wr.ownsRow (N + 1) 3 1 ov (4 * h + 2 * i) (intCells (Surf.hs h ++ Surf.cs (1 + 2 * (h : Int)) i))) (fun _ _ iv _ => (c - intOf iv).toNat)
      case atStart => exact ⟨0, X, Nat.zero_le _, rfl, rfl, by have := HX.out; omega, Hb.out, Hbox.out, by simpa [Surf.cs] using Hown.out⟩
      case round =>
        obtain ⟨i, X, hi, rfl, rfl, hX, hb, hbox, hown⟩ := hrel
        have hNle : N + 1 ≤ wr.heap.size := hbox.lt
        obtain ⟨_, _, _, _, _, _⟩ := hbox.six
        have Hbox := Lib.hid hbox; clear hbox
        by_cases hlt : i < c
        · have Hst := Lib.hid (Surf.cs_snoc (1 + 2 * (h : Int)) i)
          have dlt : decide ((i : Int) < (c : Int)) = true := decide_eq_true (by omega)
          have hx0 : 1 ≤ X := by omega
          have hx1 : X ≤ 1000 := by omega
          have HX := Lib.hid hX
          have Hb := Lib.hid hb; have Hlt := Lib.hid hlt; clear hb hlt
          have hc1 : (4 * h + 2 * i) + 2 ≤ maxLen := by unfold maxLen; omega
          have hc2 : ((4 * h + 2 * i) + 2) * 8 ≤ 140737488355328 := by omega
          have Hln := Lib.hid (show (4 * h + 2 * i) + 2 = (4 * h + 2 * (i + 1)) by omega)
          clear hX
          obtain ⟨av, cv, rfl⟩ := own_len hown
          go_wp2_with (at_builtin; refine append_lits [.int .i64 X, .int .i64 X] 2 rfl rfl (.tmp 27) (.tmp 30) 42 rfl (N + 1) 3 i0 _ 8 Try.underlying42 Hi0.out Hz0.out Hz1.out Hz2.out (by rfl) _ _ _ rfl hown (ints_one [X, X]) _ rfl hc1 hc2 hNle ?_; intro v1 w1 hown1 hg1)
          go_roundw
          case rel =>
            refine ⟨i + 1, X + 1, by have := Hlt.out; omega, by go_num, rfl, ?_, Below.grown (Hb.out.alloc (by omega) _) hg1 (by simp; omega) (fun k hk => by have := (hown.lt k hk).1; omega), (Hbox.out.alloc _).grown hg1 (fun e => by have := (hown.lt _ e.symm).1; omega), ?_⟩
            · have := HX.out; rw [this, Int.natCast_add, Int.mul_add]; omega
            · have hX := HX.out; rw [Hst.out, ← List.append_assoc, ← Hln.out, int_append]; subst hX; exact hown1
          case measure => have := Hlt.out; simp [intOf] <;> omega
        · have hin : c = i := by omega
          subst hin
          have dlt : decide ((c : Int) < (c : Int)) = false := decide_eq_false (by omega)
          clear hlt hi
          have Hown := Lib.hid hown; have Hb := Lib.hid hb; clear hown hb
          have HX := Lib.hid hX; clear hX
          go_wp2
          go_loopw [3, 4, 37] (fun ov xv iv wr => ∃ i : Nat, ∃ X : Int, i ≤ b ∧ iv = .int .i64 (i : Int) ∧ xv = .int .i64 X ∧ X = (1 + 2 * (h : Int) + (c : Int)) + 2 * (i : Int) ∧ Below N w wr ∧ Blk wr N 92 #[.int .i64 (h : Int), .int .i64 (c : Int), .int .i64 (b : Int)] ∧ wr.ownsRow (N + 1) 3 1 ov (4 * h + 2 * c + 3 * i) (intCells (Surf.hs h ++ Surf.cs (1 + 2 * (h : Int)) c ++ Surf.bs (1 + 2 * (h : Int) + (c : Int)) i))) (fun _ _ iv _ => (b - intOf iv).toNat)
          case atStart => exact ⟨0, X, Nat.zero_le _, rfl, rfl, by have := HX.out; omega, Hb.out, Hbox.out, by simpa [Surf.bs] using Hown.out⟩
          case round =>
            obtain ⟨i, X, hi, rfl, rfl, hX, hb, hbox, hown⟩ := hrel
            have hNle : N + 1 ≤ wr.heap.size := hbox.lt
            obtain ⟨_, _, _, _, _, _⟩ := hbox.six
            have Hbox := Lib.hid hbox; clear hbox
            by_cases hlt : i < b
            · have Hst := Lib.hid (Surf.bs_snoc (1 + 2 * (h : Int) + (c : Int)) i)
              have dlt : decide ((i : Int) < (b : Int)) = true := decide_eq_true (by omega)
              have hx0 : 1 ≤ X := by omega
              have hx1 : X ≤ 1000 := by omega
              have HX := Lib.hid hX
              have Hb := Lib.hid hb; have Hlt := Lib.hid hlt; clear hb hlt
              have hc1 : (4 * h + 2 * c + 3 * i) + 3 ≤ maxLen := by unfold maxLen; omega
              have hc2 : ((4 * h + 2 * c + 3 * i) + 3) * 8 ≤ 140737488355328 := by omega
              have Hln := Lib.hid (show (4 * h + 2 * c + 3 * i) + 3 = (4 * h + 2 * c + 3 * (i + 1)) by omega)
              clear hX
              obtain ⟨av, cv, rfl⟩ := own_len hown
              go_wp2_with (at_builtin; refine append_lits [.int .i64 X, .int .i64 (X + 1), .int .i64 (-X)] 3 rfl rfl (.tmp 39) (.tmp 45) 42 rfl (N + 1) 3 i0 _ 8 Try.underlying42 Hi0.out Hz0.out Hz1.out Hz2.out (by rfl) _ _ _ rfl hown (ints_one [X, X + 1, -X]) _ rfl hc1 hc2 hNle ?_; intro v1 w1 hown1 hg1)
              go_roundw
              case rel =>
                refine ⟨i + 1, X + 2, by have := Hlt.out; omega, by go_num, rfl, ?_, Below.grown (Hb.out.alloc (by omega) _) hg1 (by simp; omega) (fun k hk => by have := (hown.lt k hk).1; omega), (Hbox.out.alloc _).grown hg1 (fun e => by have := (hown.lt _ e.symm).1; omega), ?_⟩
                · have := HX.out; rw [this, Int.natCast_add, Int.mul_add]; omega
                · have hX := HX.out; rw [Hst.out, ← List.append_assoc, ← Hln.out, int_append]; subst hX; exact hown1
              case measure => have := Hlt.out; simp [intOf] <;> omega
            · have hin : b = i := by omega
              subst hin
              have dlt : decide ((b : Int) < (b : Int)) = false := decide_eq_false (by omega)
              clear hlt hi
              have Hown := Lib.hid hown; have Hb := Lib.hid hb
              have Hg := Lib.hid (own_gives (w := w) (l := Surf.poly h c b) (own_mono (base' := w.heap.size) (show wr.ownsRow (N + 1) 3 1 _ (4 * h + 2 * c + 3 * b) (intCells (Surf.poly h c b)) from by unfold Surf.poly; exact Hown.out) (by have := HN.out; omega)) (Surf.poly_len h c b) (by rw [HN.out]; exact Hb.out))
              clear hown hb
              go_wp2
              go_ret
              exact Hg.out
theorem impl_standardPolygon' (x y z : Int) (w : World) (hs : Surf.Is x y z) :
    Calls Try.prog 128 #[.agg #[.int .i64 x, .int .i64 y, .int .i64 z]] w fun e w' => Gives w (Surf.poly x.toNat y.toNat z.toNat) e w' := by
  obtain ⟨⟨h1, h2⟩, ⟨h3, h4⟩, ⟨h5, h6⟩, _⟩ := hs
  have h := impl_standardPolygon x.toNat y.toNat z.toNat w (by omega) (by omega) (by omega)
  rwa [Int.toNat_of_nonneg h1, Int.toNat_of_nonneg h3, Int.toNat_of_nonneg h5] at h
end Go.Proofs.Ytfaagbmaekoogaa
