/-
  Small facts on worlds and on a row's last step that the proofs of this seat share. What the laws of this seat share at their last step: the world in which the listed variables lie, and that an argument reads as it did. The world that the program's own initialisers leave meets what the rows of this seat list; it is shaped as a start is. A slice whose cells are known, nil included. Rows of integers: their cells; rows that can be written. The walks of the laws' helpers over slices of integers. The walks of the laws' helpers over slices of texts. Rows of integers of the call's own: what a call gives, what append makes. The walks of the model's cursor over a draw's bytes: it gives numbers within its bounds, and turns its own block alone. A slice of bytes that comes in: its cells are known. Rows of rows of integers: their cells, the blocks in which they lie, what is written into some blocks alone. The walks of the laws' helpers over rows of rows of integers. Rows of rows that a call makes by appends, or holds in one literal; what a call that hands rows and a bool back gives. Words, as lists of integers: what the document's chapter on words says of them. Gluings, as lists of words: what the document's chapter on gluings says of them. The walks of the program's and the model's IsWord. The walks that count how often letters occur: the model's l3Uses, the program's countLetters. The walk of the program's countLetters: an array, by value. The walks of the program's and the model's IsGluing. Classes that are merged: a class's label, the model's roots with their depths, how many classes there are; loops over rows of rows. The walks of the program's and the model's EdgeLetters, FreeLetters. The walks over labels: the program's newClasses, mergeClasses, countClasses; the model's l3Find.
-/
import Derived.Test.YtpgdmbolckogcaaDoorRows
import Derived.WalkKit
import Derived.WalkSpells
import Derived.WalkLawsBesides
import Derived.ProofKit
import Derived.Below
import Derived.ChangeSame
import Derived.Sort.Grow
import Derived.Lib.Hide
import Derived.Lib.LaidTab
import Derived.Carry
import Derived.LaidMore
import Derived.LaidSub
import Derived.Stop.LaidErr
import Derived.Deep.DeepWitnessRowRef
import Derived.Laws.OwnMore
import Derived.Deep.Draws
import Derived.Laws.Rows
import Derived.Laws.MakeOwn
import Derived.Maps.AppendAt
import Derived.Deep.QuietTactic
import Derived.BigQuiet
import Derived.Laws.AppendOwn
import Derived.Laws.BitsAllLaws
import Derived.Laws.BitsLemmas
import Derived.OpenShut
import Derived.StillTailTactics
import Derived.Deep.WholeRow
import Derived.Deep.Cut
namespace Go.Proofs.YtpgdmbolckogcaaDoor
open Go.RowKit Go.WideShapes Go.ChangeShapes Go.Sort

theorem below_drewN {B : Nat} {a w : World} (h : Below B a w) (n : Nat) : Below B a (w.drewN n) := ⟨h.os, h.tape, h.output, h.size, h.block⟩
theorem below_grow {B : Nat} {a w : World} (h : Below B a w) (hB : B ≤ w.heap.size) (os : Array Obj) : Below B a (grow w os) :=
  ⟨h.os, h.tape, h.output, Nat.le_trans h.size (by simp [grow]), fun k hk => by
    rw [← h.block k hk]
    show (w.heap ++ os)[k]? = w.heap[k]?
    rw [Array.getElem?_append_left (by omega)]⟩
theorem var_below {P : Program} {B g : Nat} {W W' : World} {n : String} {cs : Array Value} (h : Below B W W') (hg : P.globalNamed n = some g) (hgB : g < B) (hv : W.var? P n = some cs) : W'.var? P n = some cs := by
  unfold World.var? at hv ⊢
  simp only [hg, Option.bind_eq_bind, Option.bind_some] at hv ⊢
  rw [h.block g hgB]
  exact hv
section
variable {H : Type} {enc : TypeId × Value → H} {P : Program}
theorem post_of_below {f : Func} {s : ChangeSpec} {apart fresh handsOn again : Bool} {W W' : World} {args : Array Value} {v : Value} {ds gs : List (DataW H)} {before pa pv : List MemPlace}
    (hW : DataW.Whole enc P f.params.toList s.vars apart W args.toList ds gs before)
    (hres : ∀ (b : Nat) (sp : Nat → Bool) (hd : Bool), DataW.TrodAll enc P W' b sp hd f.resultTypes.toList (v.resultList f.resultTypes.size) (s.fn H (ds ++ gs)).results [])
    (hargs : ∀ sp : Nat → Bool, (∀ p ∈ before, sp p.block = true) → DataW.TrodAll enc P W' 0 sp true f.params.toList args.toList (s.fn H (ds ++ gs)).args pa)
    (hvars : ∀ sp : Nat → Bool, (∀ p ∈ before, sp p.block = true) → DataW.TrodVars enc P W' sp s.vars (s.fn H (ds ++ gs)).vars pv)
    (hps : before = pa ++ pv) (hb : Below W.heap.size W W')
    (hok : ∀ (j : Nat) (t : TypeId) (r : Value), f.resultTypes[j]? = some t → (v.resultList f.resultTypes.size)[j]? = some r → Value.okWide P W' .any 0 t r) :
    s.post enc P f apart fresh handsOn again W args v W' := by
  have hlt : ∀ p ∈ before, p.block < W.heap.size := fun p hp => hW.lt p hp
  have hold : ∀ p ∈ before, (fun b => decide (b < W.heap.size)) p.block = true := fun p hp => by simpa using hlt p hp
  refine ⟨ds, gs, before, [], pa, pv, hW, hres _ _ _, hargs _ hold, hvars _ hold, World.keptBut_mono (fun p hp => ⟨hp, ?_⟩) (hb.frame (· ∈ before)), fun _ => ?_⟩
  · rw [hps, List.mem_append] at hp
    exact Or.inr hp
  · obtain ⟨_, _, _, _, _, hz, hn⟩ := hW
    refine ⟨hok, _, _, ([] ++ pa) ++ pv, ⟨[] ++ pa, pv, trodAll_append (hargs _ (fun _ _ => rfl)) (hres _ _ _), hvars _ (fun _ _ => rfl), rfl, ?_, ?_⟩, ?_⟩
    · intro b off hp
      have hin : MemPlace.cell b off ∈ before := by rw [hps]; simpa using hp
      rw [hb.frozen (hlt _ hin)]
      exact hz b off hin
    · intro ha
      have := hn ha
      rw [hps] at this
      simpa using this
    · intro p hp _
      rw [hps]
      simpa using hp
end
end Go.Proofs.YtpgdmbolckogcaaDoor
namespace Go.Proofs.YtpgdmbolckogcaaDoor
open Go.RowKit Go.WideShapes Go.ChangeShapes

theorem trod_keeps {H : Type} {enc : TypeId × Value → H} {P : Program} {t : TypeId} (hl : laidOutB P = true) (hr : P.readableRec t = true) (hrow : decide (t < P.types.size) = true) {W W' : World} {v : Value} {d : DataW H} {ps : List MemPlace}
    (h : DataW.Trod enc P W 0 (fun _ => true) true t v d ps) (hb : Below W.heap.size W W') (hlt : ∀ x ∈ ps, x.block < W.heap.size) {sp : Nat → Bool} (hs : ∀ x ∈ ps, sp x.block = true) :
    DataW.Trod enc P W' 0 sp true t v d ps :=
  WideElems.Trod_stays hl hr (of_decide_eq_true hrow) h (fun x hx => hb.same (hlt x hx)) hs

namespace Low
theorem own : ownKnob Tryd.prog.godebug = none := by kernel_rfl
end Low
end Go.Proofs.YtpgdmbolckogcaaDoor
namespace Go.Proofs.YtpgdmbolckogcaaDoor
open Go.RowKit Go.WideShapes Go.ChangeShapes
namespace Low
def full : List (String × DataW Unit) := [("math/bits.deBruijn32tab", Rows.laid_math_bits_deBruijn32tab), ("math/bits.deBruijn64tab", Rows.laid_math_bits_deBruijn64tab), ("internal/strconv.uint64pow10", Rows.laid_internal_strconv_uint64pow10), ("unicode/utf8.acceptRanges", Rows.laid_unicode_utf8_acceptRanges)]
set_option maxRecDepth 100000 in
theorem fullMet (os : Os) : laidMetH Tryd.prog full ((World.doorLaid Tryd.prog 34 os).forCall (fun _ _ => 0) ⟨#[], #[], []⟩).memory :=
  laidMetH_of_parts3 (fuel := 8) (laidMet_of_run' 8 (by kernel_rfl) (by kernel_rfl)) (by kernel_rfl) (by kernel_rfl)
set_option maxRecDepth 100000 in
theorem met (os : Os) (args : Array Value) (L : List (String × DataW Unit)) (names : List String) (h : full.filter (fun x => names.contains x.1) = L) :
    laidMetH Tryd.prog L ((World.doorLaid Tryd.prog 34 os).forCall (fun _ _ => 0) ⟨#[], args, []⟩).memory := by
  have h1 := laidMetH.filter (fun x => names.contains x.1) (fullMet os)
  rw [h] at h1
  exact h1.of_heap rfl
set_option maxRecDepth 100000 in
theorem shapeB0 (os : Os) : ((World.doorLaid Tryd.prog 34 os).forCall (fun _ _ => 0) ⟨#[], #[], []⟩).variablesRefB Tryd.prog = true := by kernel_rfl
theorem shapeB (os : Os) (args : Array Value) : ((World.doorLaid Tryd.prog 34 os).forCall (fun _ _ => 0) ⟨#[], args, []⟩).variablesRefB Tryd.prog = true := shapeB0 os
set_option maxRecDepth 100000 in
theorem shapeR0 (os : Os) : ((((World.doorLaid Tryd.prog 34 os).forCall (fun _ _ => 0) ⟨#[], #[], []⟩).heap.toList.drop Tryd.prog.globals.size).take ((begin Tryd.prog (fun _ _ => 0) default).world.heap.size - Tryd.prog.globals.size) =
      (begin Tryd.prog (fun _ _ => 0) default).world.heap.toList.drop Tryd.prog.globals.size) := by kernel_rfl
theorem shapeR (os : Os) (args : Array Value) : ((((World.doorLaid Tryd.prog 34 os).forCall (fun _ _ => 0) ⟨#[], args, []⟩).heap.toList.drop Tryd.prog.globals.size).take ((begin Tryd.prog (fun _ _ => 0) default).world.heap.size - Tryd.prog.globals.size) =
      (begin Tryd.prog (fun _ _ => 0) default).world.heap.toList.drop Tryd.prog.globals.size) := shapeR0 os
end Low
end Go.Proofs.YtpgdmbolckogcaaDoor
namespace Go.Proofs.YtpgdmbolckogcaaDoor
open Go.RowKit

/-- The address a leads to the cells cs (or there are none). -/
def RowAt (w : World) (a : Option Addr) (cs : List Value) : Prop := cs = [] ∨ ∃ b o, a = some ⟨b, o, none⟩ ∧ b < w.heap.size ∧ ∀ i v, cs[i]? = some v → w.cell? ⟨b, o + i, none⟩ = some v
theorem RowAt.below {w w' : World} {a : Option Addr} {cs : List Value} (h : RowAt w a cs) (hb : Below w.heap.size w w') : RowAt w' a cs := by
  rcases h with h | ⟨b, o, rfl, hlt, hc⟩
  · exact Or.inl h
  · exact Or.inr ⟨b, o, rfl, Nat.lt_of_lt_of_le hlt hb.size, fun i v hv => by rw [hb.cell (p := ⟨b, o + i, none⟩) hlt]; exact hc i v hv⟩
theorem RowAt.keeps {B : Nat} {w w' W : World} {a : Option Addr} {cs : List Value} (h : RowAt W a cs) (hB : W.heap.size ≤ B) (h1 : Below W.heap.size W w) (hb : Below B w w') : RowAt w' a cs :=
  h.below (h1.trans (hb.mono hB))
theorem RowAt.at {w : World} {a : Option Addr} {cs : List Value} (h : RowAt w a cs) {i : Nat} (hi : i < cs.length) : ∃ b o, a = some ⟨b, o, none⟩ ∧ b < w.heap.size ∧ ∀ j v, cs[j]? = some v → w.cell? ⟨b, o + j, none⟩ = some v := by
  rcases h with rfl | h
  · simp at hi
  · exact h

/-- A block that is known whole. -/
def Blk (w : World) (g : Nat) (t : TypeId) (cs : Array Value) : Prop := w.heap[g]? = some (.cells cs t (0, 0))
section
variable {w w' : World} {g : Nat} {t : TypeId} {cs : Array Value}
theorem Blk.lt (h : Blk w g t cs) : g < w.heap.size := by
  rcases Nat.lt_or_ge g w.heap.size with hlt | hge
  · exact hlt
  · unfold Blk at h; rw [Array.getElem?_eq_none hge] at h; cases h
theorem Blk.cell (h : Blk w g t cs) (i : Nat) : w.cell? ⟨g, i, none⟩ = cs[i]? := cell_of_row w g i cs t (0, 0) h
theorem Blk.frozen (h : Blk w g t cs) (i : Nat) : w.frozen? ⟨g, i, none⟩ = false := by
  unfold Blk at h
  simp [World.frozen?, h]
theorem Blk.new (w : World) (t : TypeId) (cs : Array Value) : Blk (w.alloc (.cells cs t)) w.heap.size t cs := heap_alloc_new w _
theorem Blk.drew (h : Blk w g t cs) : Blk w.drew g t cs := h
theorem Blk.drewN (h : Blk w g t cs) (n : Nat) : Blk (w.drewN n) g t cs := h
theorem Blk.alloc (h : Blk w g t cs) (o : Obj) : Blk (w.alloc o) g t cs := (Below.heap_alloc w o g h.lt).trans h
theorem Blk.put (h : Blk w g t cs) (i : Nat) (u : Value) : Blk (w.setCell ⟨g, i, none⟩ u) g t (cs.setIfInBounds i u) := by
  unfold Blk at h ⊢
  simp [World.setCell, Array.getElem?_modify, h]
theorem Blk.far (h : Blk w g t cs) {p : Addr} (hp : g ≠ p.block) (u : Value) : Blk (w.setCell p u) g t cs := (Below.heap_setCell w p u g hp).trans h
theorem Blk.below {B : Nat} (h : Blk w g t cs) (hb : Below B w w') (hg : g < B) : Blk w' g t cs := (hb.block g hg).trans h
theorem Blk.grown {row : Option Nat} (h : Blk w g t cs) (hb : w.grownBy w' row) (hg : some g ≠ row) : Blk w' g t cs := (hb.block g h.lt hg).trans h
theorem Blk.row (h : Blk w g t cs) : RowAt w (some ⟨g, 0, none⟩) cs.toList := Or.inr ⟨g, 0, rfl, h.lt, fun i v hv => by
  rw [Nat.zero_add, h.cell i]; simpa using hv⟩
end
theorem only_setCell {a w : World} {g : Nat} (h : a.grownBy w (some g)) {p : Addr} (hp : p.block = g ∨ a.heap.size ≤ p.block) (u : Value) : a.grownBy (w.setCell p u) (some g) :=
  ⟨h.os, h.tape, h.output, by simpa [World.setCell] using h.size, fun i hi hne => (Below.heap_setCell w p u i (by
    rintro rfl
    rcases hp with hp | hp
    · exact hne (by rw [hp])
    · omega)).trans (h.block i hi hne)⟩
theorem only_of_below {a w : World} (h : Below a.heap.size a w) (row : Option Nat) : a.grownBy w row := ⟨h.os, h.tape, h.output, h.size, fun i hi _ => h.block i hi⟩
theorem below_of_only {a w w' : World} {g : Nat} (h : Below a.heap.size a w) (hg : w.grownBy w' (some g)) (hlt : a.heap.size ≤ g) : Below a.heap.size a w' :=
  h.grown hg h.size (fun k hk => by injection hk with hk; omega)
theorem run_make_rowN {P : Program} (t e : TypeId) (i : TypeInfo) (z : Value) (ht : P.underlying t = some (.slice e)) (hi : P.info? e = some i) (hz : i.zero = some z)
    (kl kc : IntKind) (n c : Nat) (hnc : n ≤ c) (hbytes : i.bytes * c ≤ 281474976710656) (h63 : c ≤ 9223372036854775807) (w : World) :
    (Instr.makeSlice t (.int kl (n : Int)) (.int kc (c : Int))).run P w = .ok (.slice (some ⟨w.heap.size, 0, none⟩) n c) (w.alloc (.cells (madeCells z.cells (c * i.size)) e)) := by
  have hb : (i.bytes : Int) * (c : Int) ≤ 281474976710656 := by
    have h : ((i.bytes * c : Nat) : Int) ≤ 281474976710656 := by omega
    rwa [Int.natCast_mul] at h
  have hr := run_make (P := P) w t e i z ht hi hz kl kc n c (by omega) (by omega) hb (by omega)
  simp only [Int.toNat_natCast] at hr
  exact hr
/-- append of one element of one cell, to a row of the call's own. -/
theorem append_one {P : Program} {ops : Array Oper} {rest : List Oper} {o : Oper} {a : Act} {Q : Exit → Act → World → Prop} {W : World} {u : Value} {te : TypeId} (hgd : o.guard = none) (s x : Operand) (t : TypeId)
    (ho : o.op = .call { callee := .builtin .append, args := #[s, x], argTypes := #[t, t] })
    (base : Nat) (e : TypeId) (i : TypeInfo) (z : Value) (bytes : Nat) (ht : P.underlying t = some (.slice e)) (hi : P.info? e = some i) (hz : i.zero = some z)
    (hsize : i.size = 1) (hby : i.bytes = bytes) (hzs : z.cells.size = 1)
    (v : Value) (n : Nat) (xs : List Value) (hs : a.eval s = v) (hown : W.ownsRow base e 1 v n xs)
    (hu : u.oneCell' = true) (c : Nat) (hx : a.eval x = .slice (some ⟨W.heap.size, 0, none⟩) 1 c)
    (h63 : n + 1 ≤ maxLen) (hbytes : (n + 1) * bytes ≤ 140737488355328) (hbase : base ≤ W.heap.size)
    (h : ∀ v' w', w'.ownsRow base e 1 v' (n + 1) (xs ++ [u]) → (W.alloc (.cells #[u] te)).grownBy w' v.ownBlock → v' ≠ .slice none 0 0 → wpList P ops Q rest (a.put o.dst v') w') :
    wpList P ops Q (o :: rest) a (W.alloc (.cells #[u] te)) :=
  wpList_append_own _ hgd s x t ho base e i z 1 bytes ht hi hz hsize hby hzs (by decide) v n xs hs (hown.alloc _) ⟨W.heap.size, 0, none⟩ 1 c [u] hx rfl
    (fun j y hj => by
      cases j with
      | zero =>
        simp only [List.getElem?_cons_zero, Option.some.injEq] at hj
        subst hj
        show (W.alloc (.cells #[u] te)).cell? ⟨W.heap.size, 0, none⟩ = some u
        rw [World.cell?_alloc_at _ _ _ _ rfl]; rfl
      | succ j => simp at hj)
    (fun y hy => by simp only [List.mem_singleton] at hy; rw [hy]; exact hu) h63 hbytes (Nat.le_trans hbase (by simp)) (fun v' w' h1 h2 h3 => h v' w' h1 h2 (fun e => by have := (h3.1 e).2; omega))
/-- A row of the call's own, as a slice whose cells are known. -/
theorem own_row {w : World} {base : Nat} {e : TypeId} {v : Value} {n : Nat} {cs : List Value} (h : w.ownsRow base e 1 v n cs) (hn : cs.length = n) : ∃ a c, v = .slice a n c ∧ RowAt w a cs := by
  have hn := hn
  rcases h.2 with ⟨rfl, rfl⟩ | ⟨g, cap, cur, rfl, hb, hh, hle, hm, hc, ht⟩
  · exact ⟨none, 0, rfl, Or.inl (List.eq_nil_of_length_eq_zero hn)⟩
  · refine ⟨_, _, rfl, Or.inr ⟨g, 0, rfl, Blk.lt hh, fun i v hv => ?_⟩⟩
    rw [Nat.zero_add, cell_of_row w g i cur _ _ hh]
    rw [← ht, List.getElem?_take] at hv
    split at hv
    · simpa using hv
    · cases hv
theorem row_only {w0 w w' : World} {a : Option Addr} {cs : List Value} {g : Nat} (h : RowAt w0 a cs) (hg : w0.heap.size ≤ g) (hb : Below w0.heap.size w0 w) (ho : w.grownBy w' (some g)) : RowAt w' a cs :=
  h.below (below_of_only hb ho hg)
theorem made_one (z : Value) (n : Nat) : madeCells #[z] n = (List.replicate n z).toArray := by
  unfold madeCells
  apply Array.ext
  · simp
  · intro i h1 h2
    simp [Nat.mod_one]
/-- What a loop has filled: the first i of the cells cs, zeros behind. -/
def filled (cs : List Value) (z : Value) (i : Nat) : Array Value := (cs.take i ++ List.replicate (cs.length - i) z).toArray
theorem filled_zero (cs : List Value) (z : Value) : filled cs z 0 = (List.replicate cs.length z).toArray := by simp [filled]
theorem filled_all (cs : List Value) (z : Value) : filled cs z cs.length = cs.toArray := by simp [filled]
theorem filled_at {cs : List Value} {z : Value} {i : Nat} (h : i < cs.length) : (filled cs z i)[i]? = some z := by
  have e : cs.length - i = (cs.length - (i + 1)) + 1 := by omega
  unfold filled
  rw [e, List.replicate_succ]
  simp [List.getElem?_append, Nat.min_eq_left (Nat.le_of_lt h)]
theorem filled_step {cs : List Value} {z v : Value} {i : Nat} (h : cs[i]? = some v) : (filled cs z i).setIfInBounds i v = filled cs z (i + 1) := by
  obtain ⟨hi, rfl⟩ := List.getElem?_eq_some_iff.1 h
  have e : cs.length - i = (cs.length - (i + 1)) + 1 := by omega
  unfold filled
  rw [e, List.replicate_succ]
  have hl : (cs.take i).length = i := by simp; omega
  simp only [List.setIfInBounds_toArray, List.set_append, hl, Nat.lt_irrefl, if_false, Nat.sub_self, List.set_cons_zero]
  rw [List.take_succ_eq_append_getElem hi, List.append_assoc]
  rfl
end Go.Proofs.YtpgdmbolckogcaaDoor
namespace Go.Proofs.YtpgdmbolckogcaaDoor
open Go.RowKit

theorem wrap_small {x : Int} (h0 : -9223372036854775808 ≤ x) (h1 : x ≤ 9223372036854775807) : IntKind.i64.wrap x = x := by
  rw [IntKind.wrap_i64]; omega
def intCells (l : List Int) : List Value := l.map (Value.int .i64)
theorem intCells_len (l : List Int) : (intCells l).length = l.length := by simp [intCells]
theorem intCells_get {l : List Int} {i : Nat} (hi : i < l.length) : (intCells l)[i]? = some (.int .i64 l[i]) := by simp [intCells, hi]
theorem intCells_at {w : World} {a : Option Addr} {l : List Int} (h : RowAt w a (intCells l)) {i : Nat} (hi : i < l.length) : ∃ b o, a = some ⟨b, o, none⟩ ∧ b < w.heap.size ∧ w.cell? ⟨b, o + i, none⟩ = some (.int .i64 l[i]) := by
  obtain ⟨b, o, rfl, hb, hc⟩ := h.at (i := i) (by simpa [intCells] using hi)
  exact ⟨b, o, rfl, hb, hc i _ (intCells_get hi)⟩
/-- The machine's integers. -/
def I64s (l : List Int) : Prop := ∀ x ∈ l, -9223372036854775808 ≤ x ∧ x ≤ 9223372036854775807
/-- A row whose block is known, above base: it can be written. -/
def Fresh (w : World) (base : Nat) (t : TypeId) (a : Option Addr) (cs : List Value) : Prop :=
  cs = [] ∨ ∃ g o all, a = some ⟨g, o, none⟩ ∧ base ≤ g ∧ Blk w g t all ∧ ∀ i v, cs[i]? = some v → all[o + i]? = some v
theorem Fresh.row {w : World} {base : Nat} {t : TypeId} {a : Option Addr} {cs : List Value} (h : Fresh w base t a cs) : RowAt w a cs := by
  rcases h with h | ⟨g, o, all, rfl, _, hk, hc⟩
  · exact Or.inl h
  · exact Or.inr ⟨g, o, rfl, hk.lt, fun i v hv => by rw [hk.cell]; exact hc i v hv⟩
theorem Fresh.keeps {w w' : World} {base : Nat} {t : TypeId} {a : Option Addr} {cs : List Value} (h : Fresh w base t a cs) {row : Option Nat} (hg : w.grownBy w' row) (hr : ∀ g, row = some g → g < base) : Fresh w' base t a cs := by
  rcases h with h | ⟨g, o, all, rfl, hb, hk, hc⟩
  · exact Or.inl h
  · exact Or.inr ⟨g, o, all, rfl, hb, hk.grown hg (fun e => by have := hr g e.symm; omega), hc⟩
theorem Fresh.below {w w' : World} {base : Nat} {t : TypeId} {a : Option Addr} {cs : List Value} (h : Fresh w base t a cs) (hg : Below w.heap.size w w') : Fresh w' base t a cs :=
  h.keeps (only_of_below hg none) (fun _ e => by cases e)
theorem Fresh.mono {w : World} {base base' : Nat} {t : TypeId} {a : Option Addr} {cs : List Value} (h : Fresh w base t a cs) (hb : base' ≤ base) : Fresh w base' t a cs := by
  rcases h with h | ⟨g, o, all, rfl, hg, hk, hc⟩
  · exact Or.inl h
  · exact Or.inr ⟨g, o, all, rfl, Nat.le_trans hb hg, hk, hc⟩
theorem Fresh.of_blk {w : World} {g base : Nat} {t : TypeId} {cs : List Value} (h : Blk w g t cs.toArray) (hb : base ≤ g) : Fresh w base t (some ⟨g, 0, none⟩) cs :=
  Or.inr ⟨g, 0, _, rfl, hb, h, fun i v hv => by rw [Nat.zero_add]; simpa using hv⟩
theorem Fresh.part {w : World} {base : Nat} {t : TypeId} {b o : Nat} {cs cs' : List Value} (h : Fresh w base t (some ⟨b, o, none⟩) cs) (j : Nat) (hs : ∀ i v, cs'[i]? = some v → cs[j + i]? = some v) : Fresh w base t (some ⟨b, o + j, none⟩) cs' := by
  rcases h with rfl | ⟨g, o, all, e, hb, hk, hc⟩
  · cases cs' with
    | nil => exact Or.inl rfl
    | cons x r => have := hs 0 x rfl; simp at this
  · cases e
    exact Or.inr ⟨_, _, all, rfl, hb, hk, fun i v hv => by rw [Nat.add_assoc]; exact hc _ v (hs i v hv)⟩
/-- A row of the call's own can be written. -/
theorem own_fresh {w : World} {base : Nat} {e : TypeId} {v : Value} {n : Nat} {cs : List Value} (h : w.ownsRow base e 1 v n cs) (hn : cs.length = n) : ∃ a c, v = .slice a n c ∧ n ≤ c ∧ Fresh w base e a cs := by
  rcases h.2 with ⟨rfl, rfl⟩ | ⟨g, cap, cur, rfl, hb, hh, hle, hm, hc, ht⟩
  · exact ⟨none, 0, rfl, Nat.le_refl _, Or.inl (List.eq_nil_of_length_eq_zero hn)⟩
  · refine ⟨_, _, rfl, by omega, Or.inr ⟨g, 0, cur, rfl, hb, hh, fun i v hv => ?_⟩⟩
    rw [Nat.zero_add]
    rw [← ht, List.getElem?_take] at hv
    split at hv
    · simpa using hv
    · cases hv
end Go.Proofs.YtpgdmbolckogcaaDoor
namespace Go.Proofs.YtpgdmbolckogcaaDoor
open Go.RowKit

theorem info_int : (Tryd.prog.info? 3).map (fun i => (i.zero, i.size, i.bytes)) = some (some (.int .i64 0), 1, 8) := by kernel_rfl

set_option maxRecDepth 10000 in
set_option maxHeartbeats 400000 in
theorem toIntS (a : Option Addr) (c : Nat) (l : List Int) (w : World) (ha : RowAt w a (intCells l)) (hl : l.length ≤ 1048576) :
    Calls Tryd.prog 44 #[.slice a l.length c] w fun e w' => e = .returned (.slice (some ⟨w.heap.size, 0, none⟩) l.length l.length) ∧ Blk w' w.heap.size 3 (intCells l).toArray ∧ Below w.heap.size w w' := by
  obtain ⟨i0, hi, hz0, hz1, hz2⟩ := info_parts info_int
  have hmk := fun W => run_make_rowN (P := Tryd.prog) 36 3 i0 _ Tryd.underlying36 hi hz0 .i64 .i64 l.length l.length (Nat.le_refl _) (by rw [hz2]; omega) (by omega) W
  have hn := intCells_len l
  have hmc : madeCells (Value.int .i64 0).cells (l.length * i0.size) = filled (intCells l) (.int .i64 0) 0 := by
    rw [hz1, Nat.mul_one, filled_zero, hn]; exact made_one _ _
  rw [hmc] at hmk
  generalize hN : w.heap.size = N
  have HN := Lib.hid hN
  have Hi := Lib.hid hi
  have Hc := Lib.hid hn
  clear hi hz0 hz1 hz2 hmc hn
  go_enter Tryd.func44, Tryd.ntmps44
  go_wp2
  go_loopw [4] (fun iv wr => ∃ i : Nat, i ≤ l.length ∧ iv = .int .i64 i ∧ Blk wr N 3 (filled (intCells l) (.int .i64 0) i) ∧ Below N w wr) (fun iv _ => l.length - (intOf iv).toNat)
  case atStart => exact ⟨0, by omega, rfl, by have h := Blk.new w 3 (filled (intCells l) (.int .i64 0) 0); rw [HN.out] at h; exact h, by have h := (Below.refl w.heap.size w).alloc (Nat.le_refl _) (.cells (filled (intCells l) (.int .i64 0) 0) 3); rw [HN.out] at h; exact h⟩
  case round =>
    obtain ⟨i, hi, rfl, hblk, hb⟩ := hrel
    have Hblk := Lib.hid hblk
    by_cases hlt : i < l.length
    · have ha' : RowAt wr a (intCells l) := ha.below (by rw [HN.out]; exact hb)
      obtain ⟨b, o, rfl, hbw, hcell⟩ := intCells_at ha' hlt
      have hdst : wr.cell? ⟨N, i, none⟩ = some (.int .i64 0) := by rw [hblk.cell i]; exact filled_at (by rw [Hc.out]; exact hlt)
      have hfz := hblk.frozen i
      have Hb := Lib.hid hb; clear hblk hb
      have Hs := Lib.hid (filled_step (z := .int .i64 0) (intCells_get hlt))
      go_wp2
      go_roundw
      case rel => exact ⟨i + 1, by omega, by go_num, by have h := Hblk.out.put i (.int .i64 l[i]); rw [Hs.out] at h; exact h, Hb.out.setCell (Nat.le_refl _) _⟩
      case measure => simp [intOf]; omega
    · obtain rfl : i = l.length := by omega
      go_wp2
      go_ret
      refine ⟨rfl, ?_, hb⟩
      have h := Hblk.out
      rw [← Hc.out, filled_all] at h
      exact h

set_option maxRecDepth 10000 in
set_option maxHeartbeats 400000 in
theorem eqIntS (a a' : Option Addr) (c c' : Nat) (l : List Int) (w : World) (ha : RowAt w a (intCells l)) (ha' : RowAt w a' (intCells l)) (hl : l.length ≤ 9223372036854775807) :
    Calls Tryd.prog 48 #[.slice a l.length c, .slice a' l.length c'] w fun e w' => e = .returned (.bool true) ∧ Below w.heap.size w w' := by
  go_enter Tryd.func48, Tryd.ntmps48
  go_wp2
  go_loopw [4, 5] (fun rv iv wr => rv = .bool false ∧ ∃ i : Nat, i ≤ l.length ∧ iv = .int .i64 i ∧ Below w.heap.size w wr) (fun _ iv _ => l.length - (intOf iv).toNat)
  case atStart => exact ⟨rfl, 0, by omega, rfl, Below.refl _ _⟩
  case round =>
    obtain ⟨rfl, i, hi, rfl, hb⟩ := hrel
    by_cases hlt : i < l.length
    · obtain ⟨b, o, rfl, hbw, hcell⟩ := intCells_at (ha.below hb) hlt
      obtain ⟨b', o', rfl, hbw', hcell'⟩ := intCells_at (ha'.below hb) hlt
      generalize l[i] = x at hcell hcell'
      have h0 : (0 : Int) ≤ (i : Int) := by omega
      have h1 : (i : Int) < (l.length : Int) := by omega
      go_wp2
      go_quiet (fail)
      all_goals go_wp2
      all_goals
        go_roundw
        case rel => exact ⟨rfl, i + 1, by omega, by go_num, below_drewN hb _⟩
        case measure => simp [intOf]; omega
    · obtain rfl : i = l.length := by omega
      go_wp2
      go_ret
      exact ⟨rfl, hb⟩

def marksI (k n : Nat) : List Int := (List.range n).map fun j => ((k + j : Nat) : Int)
theorem marksI_len (k n : Nat) : (marksI k n).length = n := by simp [marksI]
theorem marksI_at {k n i : Nat} (h : i < (marksI k n).length) : (marksI k n)[i] = ((k + i : Nat) : Int) := by simp [marksI]
theorem put_step {all all' : Array Value} {o i n : Nat} {f : Nat → Value} (hs : all'.size = all.size) (hn : o + n ≤ all.size) (hi : i < n) (h : ∀ j, j < i → all'[o + j]? = some (f j)) :
    (all'.setIfInBounds (o + i) (f i)).size = all.size ∧ ∀ j, j < i + 1 → (all'.setIfInBounds (o + i) (f i))[o + j]? = some (f j) := by
  refine ⟨by simpa using hs, fun j hj => ?_⟩
  rw [Array.getElem?_setIfInBounds]
  by_cases e : j = i
  · subst e; simp; omega
  · rw [if_neg (by omega)]; exact h j (by omega)

set_option maxRecDepth 10000 in
set_option maxHeartbeats 400000 in
theorem markIntS_at (g o c k n : Nat) (all : Array Value) (w : World) (hk : Blk w g 3 all) (hall : ∀ i, i < n → ∃ x, all[o + i]? = some (.int .i64 x)) (h1 : k ≤ 1000000000) (hn : n ≤ 1000000000) :
    Calls Tryd.prog 52 #[.slice (some ⟨g, o, none⟩) n c, .int .i64 k] w fun e w' => e = .returned (.int .i64 (k + n : Nat)) ∧ (∃ all', Blk w' g 3 all' ∧ all'.size = all.size ∧ ∀ j, j < n → all'[o + j]? = some (.int .i64 (k + j : Nat))) ∧ w.grownBy w' (some g) := by
  have Hk := Lib.hid hk
  have hglt := hk.lt
  clear hk
  go_enter Tryd.func52, Tryd.ntmps52
  go_wp2
  go_loopw [1, 5] (fun kv iv wr => ∃ i : Nat, i ≤ n ∧ iv = .int .i64 i ∧ kv = .int .i64 (k + i : Nat) ∧ (∃ all', Hid (Blk wr g 3 all' ∧ all'.size = all.size ∧ ∀ j, j < i → all'[o + j]? = some (.int .i64 (k + j : Nat)))) ∧ w.grownBy wr (some g)) (fun _ iv _ => n - (intOf iv).toNat)
  case atStart => exact ⟨0, by omega, rfl, rfl, ⟨all, Lib.hid ⟨Hk.out, rfl, fun j hj => by omega⟩⟩, World.grownBy.refl _ _⟩
  case round =>
    obtain ⟨i, hi, rfl, rfl, ⟨all', hblk⟩, hg⟩ := hrel
    by_cases hlt : i < n
    · have hsz : o + n ≤ all.size := by
        obtain ⟨x, hx⟩ := hall (n - 1) (by omega)
        have := (Array.getElem?_eq_some_iff.1 hx).1
        omega
      obtain ⟨v, hcell⟩ : ∃ v, wr.cell? ⟨g, o + i, none⟩ = some v := ⟨all'[o + i]'(by rw [hblk.out.2.1]; omega), by rw [hblk.out.1.cell]; simp⟩
      have hfz := hblk.out.1.frozen (o + i)
      go_wp2
      go_roundw
      case rel =>
        refine ⟨i + 1, by omega, by go_num, by simp; omega, ⟨_, Lib.hid ⟨hblk.out.1.put (o + i) (.int .i64 (k + i : Nat)), ?_⟩⟩, only_setCell hg (Or.inl rfl) _⟩
        exact put_step (f := fun j => .int .i64 (k + j : Nat)) hblk.out.2.1 hsz hlt hblk.out.2.2
      case measure => simp [intOf]; omega
    · obtain rfl : i = n := by omega
      go_wp2
      go_ret
      exact ⟨rfl, ⟨all', hblk.out⟩, hg⟩

set_option maxRecDepth 10000 in
set_option maxHeartbeats 400000 in
theorem markIntS_none (a : Option Addr) (c k : Nat) (w : World) (h1 : k ≤ 1000000000) :
    Calls Tryd.prog 52 #[.slice a 0 c, .int .i64 k] w fun e w' => e = .returned (.int .i64 k) ∧ w' = w := by
  go_enter Tryd.func52, Tryd.ntmps52
  go_wp2
  go_loopw [1, 5] (fun kv iv wr => kv = .int .i64 k ∧ iv = .int .i64 0 ∧ wr = w) (fun _ _ _ => 0)
  case atStart => exact ⟨rfl, rfl, rfl⟩
  case round =>
    obtain ⟨rfl, rfl, rfl⟩ := hrel
    go_wp2
    go_ret
    exact ⟨rfl, rfl⟩

theorem markIntS_blk (g c k : Nat) (l : List Int) (w : World) (hk : Blk w g 3 (intCells l).toArray) (h1 : k ≤ 1000000000) (hn : l.length ≤ 1000000000) :
    Calls Tryd.prog 52 #[.slice (some ⟨g, 0, none⟩) l.length c, .int .i64 k] w fun e w' => e = .returned (.int .i64 (k + l.length : Nat)) ∧ w.grownBy w' (some g) := by
  refine (markIntS_at g 0 c k l.length _ w hk (fun i hi => ⟨l[i], by rw [Nat.zero_add]; simpa using intCells_get hi⟩) h1 hn).mono ?_
  rintro e w' ⟨rfl, _, h⟩
  exact ⟨rfl, h⟩

/-- A row that can be written, marked. -/
theorem markIntS (a : Option Addr) (c k base : Nat) (l : List Int) (w : World) (hf : Fresh w base 3 a (intCells l)) (h1 : k ≤ 1000000000) (hn : l.length ≤ 1000000000) (hb : base ≤ w.heap.size) :
    Calls Tryd.prog 52 #[.slice a l.length c, .int .i64 k] w fun e w' => e = .returned (.int .i64 (k + l.length : Nat)) ∧ Fresh w' base 3 a (intCells (marksI k l.length)) ∧ Below base w w' ∧ ∃ row, w.grownBy w' row ∧ ∀ g, row = some g → base ≤ g ∧ ∃ o, a = some ⟨g, o, none⟩ := by
  rcases hf with he | ⟨g, o, all, rfl, hg, hk, hc⟩
  · obtain rfl : l = [] := by simpa [intCells] using he
    refine (markIntS_none a c k w h1).mono ?_
    rintro e w' ⟨rfl, rfl⟩
    exact ⟨rfl, Or.inl rfl, Below.refl _ _, none, World.grownBy.refl _ _, fun _ e => by cases e⟩
  · refine (markIntS_at g o c k l.length all w hk (fun i hi => ⟨l[i], hc i _ (intCells_get hi)⟩) h1 hn).mono ?_
    rintro e w' ⟨rfl, ⟨all', hk', _, hc'⟩, hgr⟩
    refine ⟨rfl, Or.inr ⟨g, o, all', rfl, hg, hk', fun i v hv => ?_⟩, ?_, some g, hgr, fun g' e => by cases e; exact ⟨hg, o, rfl⟩⟩
    · have hi : i < (marksI k l.length).length := by
        have := (List.getElem?_eq_some_iff.1 hv).1
        rwa [intCells_len] at this
      rw [intCells_get hi, marksI_at] at hv
      cases hv
      exact hc' i (by rwa [marksI_len] at hi)
    · exact ⟨hgr.os, hgr.tape, hgr.output, hgr.size, fun i hi => hgr.block i (by omega) (fun e => by cases e; omega)⟩

set_option maxRecDepth 10000 in
set_option maxHeartbeats 400000 in
theorem heldIntS (a : Option Addr) (n c k : Nat) (w : World) (ha : RowAt w a (intCells (marksI k n))) (h1 : k ≤ 1000000000) (hn : n ≤ 1000000000) :
    Calls Tryd.prog 53 #[.slice a n c, .int .i64 k] w fun e w' => e = .returned (.int .i64 (k + n : Nat)) ∧ Below w.heap.size w w' := by
  have Hl := Lib.hid (marksI_len k n)
  go_enter Tryd.func53, Tryd.ntmps53
  go_wp2
  go_loopw [1, 4, 5] (fun kv rv iv wr => rv = .int .i64 0 ∧ ∃ i : Nat, i ≤ n ∧ iv = .int .i64 i ∧ kv = .int .i64 (k + i : Nat) ∧ Below w.heap.size w wr) (fun _ _ iv _ => n - (intOf iv).toNat)
  case atStart => exact ⟨rfl, 0, by omega, rfl, rfl, Below.refl _ _⟩
  case round =>
    obtain ⟨rfl, i, hi, rfl, rfl, hb⟩ := hrel
    by_cases hlt : i < n
    · obtain ⟨b, o, rfl, hbw, hcell⟩ := intCells_at (ha.below hb) (i := i) (by rw [Hl.out]; exact hlt)
      rw [marksI_at] at hcell
      have h2 : (0 : Int) ≤ (i : Int) := by omega
      have h3 : (i : Int) < (n : Int) := by omega
      go_wp2
      go_roundw
      case rel => exact ⟨rfl, i + 1, by omega, by go_num, by simp; omega, hb⟩
      case measure => simp [intOf]; omega
    · obtain rfl : i = n := by omega
      go_wp2
      go_ret
      exact ⟨rfl, hb⟩

end Go.Proofs.YtpgdmbolckogcaaDoor
namespace Go.Proofs.YtpgdmbolckogcaaDoor
open Go.RowKit

def strCells (l : List ByteArray) : List Value := l.map Value.string
theorem strCells_at {w : World} {a : Option Addr} {l : List ByteArray} (h : RowAt w a (strCells l)) {i : Nat} (hi : i < l.length) : ∃ b o, a = some ⟨b, o, none⟩ ∧ b < w.heap.size ∧ w.cell? ⟨b, o + i, none⟩ = some (.string l[i]) := by
  obtain ⟨b, o, rfl, hb, hc⟩ := h.at (i := i) (by simpa [strCells] using hi)
  exact ⟨b, o, rfl, hb, hc i _ (by simp [strCells, hi])⟩
def total (l : List ByteArray) : Nat := (l.map ByteArray.size).sum
theorem total_take {l : List ByteArray} {i : Nat} (h : i < l.length) : total (l.take (i + 1)) = total (l.take i) + l[i].size := by
  unfold total
  rw [List.take_succ_eq_append_getElem h, List.map_append, List.sum_append]; simp
/-- What szStringS comes to: -1, or what is left. -/
def Sz (l : List ByteArray) (left : Nat) (r : Int) : Prop := r = -1 ∨ (0 ≤ r ∧ l.length + total l ≤ left)


theorem info_str : (Tryd.prog.info? 9).map (fun i => (i.zero, i.size, i.bytes)) = some (some (.string ByteArray.empty), 1, 16) := by kernel_rfl



end Go.Proofs.YtpgdmbolckogcaaDoor
namespace Go.Proofs.YtpgdmbolckogcaaDoor
open Go.RowKit

/-- The call gives these integers, in memory of its own. -/
def Gives (w : World) (l : List Int) (e : Ending) (w' : World) : Prop := ∃ a c, e = .returned (.slice a l.length c) ∧ l.length ≤ c ∧ c ≤ maxLen ∧ Fresh w' w.heap.size 3 a (intCells l) ∧ Below w.heap.size w w'
theorem own_gives {w w' : World} {v : Value} {n : Nat} {l : List Int} (h : w'.ownsRow w.heap.size 3 1 v n (intCells l)) (hn : l.length = n) (hb : Below w.heap.size w w') : Gives w l (.returned v) w' := by
  rcases h.2 with ⟨rfl, rfl⟩ | ⟨g, cap, cur, rfl, hg, hh, hle, hm, hc, ht⟩
  · obtain rfl := List.eq_nil_of_length_eq_zero hn
    exact ⟨none, 0, rfl, Nat.le_refl _, Nat.zero_le _, Or.inl rfl, hb⟩
  · refine ⟨_, _, by rw [hn], by omega, hm, Or.inr ⟨g, 0, cur, rfl, hg, hh, fun i v hv => ?_⟩, hb⟩
    rw [Nat.zero_add]
    rw [← ht, List.getElem?_take] at hv
    split at hv
    · simpa using hv
    · cases hv
theorem Gives.none {w w' : World} (hb : Below w.heap.size w w') : Gives w [] (.returned (.slice none 0 0)) w' := ⟨_, _, rfl, Nat.le_refl _, Nat.zero_le _, Or.inl rfl, hb⟩
theorem Gives.later {w w0 w' : World} {l : List Int} {e : Ending} (h : Gives w0 l e w') (hb : Below w.heap.size w w0) : Gives w l e w' := by
  obtain ⟨a, c, rfl, h1, h2, h3, h4⟩ := h
  exact ⟨a, c, rfl, h1, h2, h3.mono hb.size, hb.trans (h4.mono hb.size)⟩
/-- The beginning of a row of the call's own. -/
theorem own_take {w : World} {base g cap n m : Nat} {e : TypeId} {xs : List Value} (h : w.ownsRow base e 1 (.slice (some ⟨g, 0, none⟩) n cap) n xs) (hm : m ≤ n) : w.ownsRow base e 1 (.slice (some ⟨g, 0, none⟩) m cap) m (xs.take m) := by
  obtain ⟨hx, ⟨h1, _⟩ | ⟨g', cap', cur, h1, hg, hh, hle, hmx, hc, ht⟩⟩ := h
  · cases h1
  · cases h1
    refine ⟨by simp at hx ⊢; omega, Or.inr ⟨g, cap, cur, rfl, hg, hh, by omega, hmx, hc, ?_⟩⟩
    rw [← ht, List.take_take]; congr 1; omega
theorem own_drewN {w : World} {base n : Nat} {e : TypeId} {v : Value} {xs : List Value} (h : w.ownsRow base e 1 v n xs) (q : Nat) : (w.drewN q).ownsRow base e 1 v n xs := h
theorem own_mono {w : World} {base base' n : Nat} {e : TypeId} {v : Value} {xs : List Value} (h : w.ownsRow base e 1 v n xs) (hb : base' ≤ base) : w.ownsRow base' e 1 v n xs := by
  obtain ⟨hx, h | ⟨g, cap, cur, h1, hg, h2⟩⟩ := h
  · exact ⟨hx, Or.inl h⟩
  · exact ⟨hx, Or.inr ⟨g, cap, cur, h1, Nat.le_trans hb hg, h2⟩⟩
theorem own_form {w : World} {base n : Nat} {e : TypeId} {v : Value} {xs : List Value} (h : w.ownsRow base e 1 v n xs) (hn : 0 < n) : ∃ g cap, v = .slice (some ⟨g, 0, none⟩) n cap ∧ n ≤ cap ∧ cap ≤ maxLen := by
  obtain ⟨_, ⟨_, h2⟩ | ⟨g, cap, cur, h1, hg, hh, hle, hmx, hc, ht⟩⟩ := h
  · omega
  · exact ⟨g, cap, h1, hle, hmx⟩
theorem own_len {w : World} {base n : Nat} {e : TypeId} {v : Value} {xs : List Value} (h : w.ownsRow base e 1 v n xs) : ∃ a cap, v = .slice a n cap := by
  obtain ⟨_, ⟨h1, rfl⟩ | ⟨g, cap, cur, h1, hg, hh, hle, hmx, hc, ht⟩⟩ := h
  · exact ⟨none, 0, h1⟩
  · exact ⟨_, cap, h1⟩
theorem own_cell {w : World} {base g cap n : Nat} {e : TypeId} {l : List Int} (h : w.ownsRow base e 1 (.slice (some ⟨g, 0, none⟩) n cap) n (intCells l)) {k : Nat} (hk : k < n) (hl : l.length = n) : w.cell? ⟨g, k, none⟩ = some (.int .i64 (l[k]'(by omega))) := by
  rw [h.cellAt k (by omega), intCells_get (by omega)]
theorem intCells_take (l : List Int) (k : Nat) : (intCells l).take k = intCells (l.take k) := by simp [intCells, List.map_take]
theorem intCells_snoc (l : List Int) (x : Int) : intCells l ++ [.int .i64 x] = intCells (l ++ [x]) := by simp [intCells]
theorem info_int_parts : ∃ i, Tryd.prog.info? 3 = some i ∧ i.zero = some (.int .i64 0) ∧ i.size = 1 ∧ i.bytes = 8 := by
  obtain ⟨i, h1, h2, h3, h4⟩ := info_parts info_int
  exact ⟨i, h1, h2, h3, h4⟩

theorem own_made {N : Nat} {w : World} (h : w.heap.size = N) : (w.alloc (.cells #[] 3)).ownsRow N 3 1 (.slice (some ⟨w.heap.size, 0, none⟩) 0 0) 0 (intCells []) :=
  World.ownsRow_made (base := N) (e := 3) (size := 1) w #[] 0 (by omega) (by unfold maxLen; omega) (by rfl)

/-- append to a row of the call's own: the row stays in its block, or moves into the block that is made. -/
theorem run_append_new {P : Program} (w : World) (base : Nat) (t ty e : TypeId) (i : TypeInfo) (z : Value) (size bytes : Nat) (ht : P.underlying t = some (.slice e)) (hi : P.info? e = some i) (hz : i.zero = some z)
    (hsize : i.size = size) (hby : i.bytes = bytes) (hzs : z.cells.size = size) (hsz : 0 < size)
    (v : Value) (n : Nat) (xs : List Value) (hown : w.ownsRow base e size v n xs)
    (ad : Addr) (m c : Nat) (news : List Value) (hl : news.length = m * size) (hnews : ∀ j u, news[j]? = some u → w.cell? (ad.add j) = some u) (h1 : ∀ u ∈ news, u.oneCell' = true)
    (h63 : n + m ≤ maxLen) (hbytes : (n + m) * bytes ≤ 140737488355328) (hbase : base ≤ w.heap.size) :
    ∃ v' w', (Builtin.append_ #[t, t] ty #[v, .slice (some ad) m c]).run P w = .ok v' w' ∧ w'.ownsRow base e size v' (n + m) (xs ++ news) ∧ w.grownBy w' v.ownBlock ∧ (v'.ownBlock = v.ownBlock ∨ v'.ownBlock = some w.heap.size) := by
  obtain ⟨v', w', hr, h2, h3, h4⟩ := run_append_own (P := P) w base t ty e i z size bytes ht hi hz hsize hby hzs hsz v n xs hown ad m c news hl hnews h1 h63 hbytes hbase
  refine ⟨v', w', hr, h2, h3, ?_⟩
  subst hsize
  subst hby
  have hsmall : n + m ≤ 9223372036854775807 := by simp only [maxLen] at h63; omega
  rcases hown.2 with ⟨rfl, rfl⟩ | ⟨g, cap, cur, rfl, hbg, hg, hnc, hcm, hcs, htake⟩
  · by_cases hm : m = 0
    · rw [h4.2 ⟨rfl, hm⟩]; exact Or.inl rfl
    · have hq := run_append_nil (P := P) w t ty e i z ht hi hz ad m c news hl hnews (by omega) (by omega) (by have hb := hbytes; simp only [Nat.zero_add] at hb; omega)
      rw [hq] at hr
      cases hr
      exact Or.inr rfl
  · by_cases hroom : n + m ≤ cap
    · have hfit : n * i.size + news.length ≤ cur.size := by rw [hl, hcs, ← Nat.add_mul]; exact Nat.mul_le_mul_right _ hroom
      have hq := run_append_room (P := P) w t ty e i ht hi g n cap cur hg ad m c news hl hnews h1 hroom hfit
      rw [hq] at hr
      cases hr
      exact Or.inl rfl
    · have holds : ∀ j u, xs[j]? = some u → w.cell? ((⟨g, 0, none⟩ : Addr).add j) = some u := hown.cells (g := g) rfl
      have hq := run_append_grow (P := P) w t ty e i z ht hi hz ⟨g, 0, none⟩ n cap xs hown.1 holds ad m c news hl hnews (by omega) (by omega) (growslice_fits (by omega) hbytes)
      rw [hq] at hr
      cases hr
      exact Or.inr rfl
theorem wpList_append_new {P : Program} {w : World} {ops : Array Oper} {rest : List Oper} {o : Oper} {a : Act} {Q : Exit → Act → World → Prop} (hgd : o.guard = none) (s x : Operand) (t : TypeId)
    (ho : o.op = .call { callee := .builtin .append, args := #[s, x], argTypes := #[t, t] })
    (base : Nat) (e : TypeId) (i : TypeInfo) (z : Value) (size bytes : Nat) (ht : P.underlying t = some (.slice e)) (hi : P.info? e = some i) (hz : i.zero = some z)
    (hsize : i.size = size) (hby : i.bytes = bytes) (hzs : z.cells.size = size) (hsz : 0 < size)
    (v : Value) (n : Nat) (xs : List Value) (hs : a.eval s = v) (hown : w.ownsRow base e size v n xs)
    (ad : Addr) (m c : Nat) (news : List Value) (hx : a.eval x = .slice (some ad) m c) (hl : news.length = m * size) (hnews : ∀ j u, news[j]? = some u → w.cell? (ad.add j) = some u) (h1 : ∀ u ∈ news, u.oneCell' = true)
    (h63 : n + m ≤ maxLen) (hbytes : (n + m) * bytes ≤ 140737488355328) (hbase : base ≤ w.heap.size)
    (h : ∀ v' w', w'.ownsRow base e size v' (n + m) (xs ++ news) → w.grownBy w' v.ownBlock → (v'.ownBlock = v.ownBlock ∨ v'.ownBlock = some w.heap.size) → wpList P ops Q rest (a.put o.dst v') w') : wpList P ops Q (o :: rest) a w := by
  obtain ⟨v', w', hr, h2, h3, h4⟩ := run_append_new (P := P) w base t o.type e i z size bytes ht hi hz hsize hby hzs hsz v n xs hown ad m c news hl hnews h1 h63 hbytes hbase
  refine wpList_plain hgd fun K hK => ?_
  unfold Oper.wp execOp
  simp only [ho, resolve, invoke, builtin, Sem.run_bind, Sem.run_pure, Result.andThen_ok, List.map_toArray, List.map_cons, List.map_nil, hs, hx, hr]
  exact hK _ _ (h v' w' h2 h3 h4)
/-- append of one element of one cell, and where the row lies then. -/
theorem append_one_new {P : Program} {ops : Array Oper} {rest : List Oper} {o : Oper} {a : Act} {Q : Exit → Act → World → Prop} {W : World} {u : Value} {te : TypeId} (hgd : o.guard = none) (s x : Operand) (t : TypeId)
    (ho : o.op = .call { callee := .builtin .append, args := #[s, x], argTypes := #[t, t] })
    (base : Nat) (e : TypeId) (i : TypeInfo) (z : Value) (bytes : Nat) (ht : P.underlying t = some (.slice e)) (hi : P.info? e = some i) (hz : i.zero = some z)
    (hsize : i.size = 1) (hby : i.bytes = bytes) (hzs : z.cells.size = 1)
    (v : Value) (n : Nat) (xs : List Value) (hs : a.eval s = v) (hown : W.ownsRow base e 1 v n xs)
    (hu : u.oneCell' = true) (c : Nat) (hx : a.eval x = .slice (some ⟨W.heap.size, 0, none⟩) 1 c)
    (h63 : n + 1 ≤ maxLen) (hbytes : (n + 1) * bytes ≤ 140737488355328) (hbase : base ≤ W.heap.size)
    (h : ∀ v' w', w'.ownsRow base e 1 v' (n + 1) (xs ++ [u]) → (W.alloc (.cells #[u] te)).grownBy w' v.ownBlock → (v'.ownBlock = v.ownBlock ∨ v'.ownBlock = some (W.alloc (.cells #[u] te)).heap.size) → wpList P ops Q rest (a.put o.dst v') w') :
    wpList P ops Q (o :: rest) a (W.alloc (.cells #[u] te)) :=
  wpList_append_new hgd s x t ho base e i z 1 bytes ht hi hz hsize hby hzs (by decide) v n xs hs (hown.alloc _) ⟨W.heap.size, 0, none⟩ 1 c [u] hx rfl
    (fun j y hj => by
      cases j with
      | zero =>
        simp only [List.getElem?_cons_zero, Option.some.injEq] at hj
        subst hj
        show (W.alloc (.cells #[u] te)).cell? ⟨W.heap.size, 0, none⟩ = some u
        rw [World.cell?_alloc_at _ _ _ _ rfl]; rfl
      | succ j => simp at hj)
    (fun y hy => by simp only [List.mem_singleton] at hy; rw [hy]; exact hu) h63 hbytes (Nat.le_trans hbase (by simp)) h
theorem own_block {g o n c k : Nat} (h : (Value.slice (some ⟨g, o, none⟩) n c).ownBlock = some k) : k = g := by cases h; rfl
/-- A row of the call's own stays what it is while its block does. -/
theorem own_keep {B base n size : Nat} {w w' : World} {e : TypeId} {v : Value} {xs : List Value} (h : w.ownsRow base e size v n xs) (hb : Below B w w') (hlt : ∀ k, v.ownBlock = some k → k < B) : w'.ownsRow base e size v n xs := by
  obtain ⟨hx, h0 | ⟨g, cap, cur, rfl, hg, hh, h2⟩⟩ := h
  · exact ⟨hx, Or.inl h0⟩
  · exact ⟨hx, Or.inr ⟨g, cap, cur, rfl, hg, (hb.block g (hlt g rfl)).trans hh, h2⟩⟩
/-- append of two elements of one cell, to a row of the call's own. -/
theorem append_two {P : Program} {ops : Array Oper} {rest : List Oper} {o : Oper} {a : Act} {Q : Exit → Act → World → Prop} {W : World} {u1 u2 : Value} {te : TypeId} (hgd : o.guard = none) (s x : Operand) (t : TypeId)
    (ho : o.op = .call { callee := .builtin .append, args := #[s, x], argTypes := #[t, t] })
    (base : Nat) (e : TypeId) (i : TypeInfo) (z : Value) (bytes : Nat) (ht : P.underlying t = some (.slice e)) (hi : P.info? e = some i) (hz : i.zero = some z)
    (hsize : i.size = 1) (hby : i.bytes = bytes) (hzs : z.cells.size = 1)
    (v : Value) (n : Nat) (xs : List Value) (hs : a.eval s = v) (hown : W.ownsRow base e 1 v n xs)
    (h1 : u1.oneCell' = true) (h2 : u2.oneCell' = true) (c : Nat) (hx : a.eval x = .slice (some ⟨W.heap.size, 0, none⟩) 2 c)
    (h63 : n + 2 ≤ maxLen) (hbytes : (n + 2) * bytes ≤ 140737488355328) (hbase : base ≤ W.heap.size)
    (h : ∀ v' w', w'.ownsRow base e 1 v' (n + 2) (xs ++ [u1, u2]) → (W.alloc (.cells #[u1, u2] te)).grownBy w' v.ownBlock → wpList P ops Q rest (a.put o.dst v') w') :
    wpList P ops Q (o :: rest) a (W.alloc (.cells #[u1, u2] te)) :=
  wpList_append_own _ hgd s x t ho base e i z 1 bytes ht hi hz hsize hby hzs (by decide) v n xs hs (hown.alloc _) ⟨W.heap.size, 0, none⟩ 2 c [u1, u2] hx rfl
    (fun j y hj => by
      have hb : Blk (W.alloc (.cells #[u1, u2] te)) W.heap.size te #[u1, u2] := Blk.new W te _
      have hadd : (⟨W.heap.size, 0, none⟩ : Addr).add j = ⟨W.heap.size, j, none⟩ := by unfold Addr.add; split <;> simp_all
      rw [hadd, hb.cell j]
      simpa using hj)
    (fun y hy => by
      simp only [List.mem_cons, List.not_mem_nil, or_false] at hy
      rcases hy with rfl | rfl
      · exact h1
      · exact h2) h63 hbytes (Nat.le_trans hbase (by simp)) (fun v' w' e1 e2 _ => h v' w' e1 e2)
/-- The row does not lie in the block g. -/
def Off (v : Value) (g : Nat) : Prop := ∀ k, v.ownBlock = some k → k ≠ g
theorem Off.next {v v' : Value} {g n : Nat} (h : Off v g) (hg : g < n) (hb : v'.ownBlock = v.ownBlock ∨ v'.ownBlock = some n) : Off v' g := by
  intro k hk
  rcases hb with e | e
  · exact h k (e ▸ hk)
  · rw [hk] at e; cases e; omega
theorem Blk.off {w w' : World} {g : Nat} {t : TypeId} {cs : Array Value} {v : Value} (h : Blk w g t cs) (hg : w.grownBy w' v.ownBlock) (ho : Off v g) : Blk w' g t cs :=
  h.grown hg (fun e => ho g e.symm rfl)
/-- The call gives these integers, in memory of its own, and a bool. -/
def Gives2 (w : World) (l : List Int) (b : Bool) (e : Ending) (w' : World) : Prop := ∃ a c, e = .returned (.tuple #[.slice a l.length c, .bool b]) ∧ l.length ≤ c ∧ c ≤ maxLen ∧ Fresh w' w.heap.size 3 a (intCells l) ∧ Below w.heap.size w w'
theorem Gives2.none {w w' : World} {b : Bool} (hb : Below w.heap.size w w') : Gives2 w [] b (.returned (.tuple #[.slice none 0 0, .bool b])) w' := ⟨_, _, rfl, Nat.le_refl _, Nat.zero_le _, Or.inl rfl, hb⟩
theorem Gives.with {w w' : World} {l : List Int} {v : Value} {b : Bool} (h : Gives w l (.returned v) w') : Gives2 w l b (.returned (.tuple #[v, .bool b])) w' := by
  obtain ⟨a, c, he, h1, h2, h3, h4⟩ := h
  cases he
  exact ⟨a, c, rfl, h1, h2, h3, h4⟩
end Go.Proofs.YtpgdmbolckogcaaDoor
namespace Go.Proofs.YtpgdmbolckogcaaDoor
open Go.RowKit

def byteCells (l : List Int) : List Value := l.map (Value.int .u8)
/-- The cursor in block g: the bytes, a place, a number. -/
def CurAt (w : World) (g : Nat) : Prop := ∃ (a : Option Addr) (c : Nat) (l : List Int) (i : Nat) (h : Int), Blk w g 72 #[.slice a l.length c, .int .i64 i, .int .i64 h] ∧ RowAt w a (byteCells l) ∧ (∀ x ∈ l, 0 ≤ x ∧ x ≤ 255) ∧
  i ≤ l.length ∧ l.length ≤ 9223372036854775807 ∧ (byteCells l ≠ [] → ∀ b o, a = some ⟨b, o, none⟩ → b < g)
/-- A number of so many is returned. -/
def Num0 (n : Int) (e : Ending) : Prop := ∃ x : Int, e = .returned (.int .i64 x) ∧ 0 ≤ x ∧ x < n
theorem and_byte (z : Int) : 0 ≤ bits .and .i64 z 255 ∧ bits .and .i64 z 255 < 256 := by
  have h : (BitVec.ofInt 64 z &&& BitVec.ofInt 64 255).toNat ≤ 255 := by
    rw [BitVec.toNat_and]
    exact Nat.and_le_right
  have e : bits .and .i64 z 255 = IntKind.i64.wrap ((BitVec.ofInt 64 z &&& BitVec.ofInt 64 255).toNat : Int) := rfl
  rw [e, IntKind.wrap_i64]
  omega
theorem byteCells_at {w : World} {a : Option Addr} {l : List Int} (h : RowAt w a (byteCells l)) {i : Nat} (hi : i < l.length) : ∃ b o, a = some ⟨b, o, none⟩ ∧ b < w.heap.size ∧ w.cell? ⟨b, o + i, none⟩ = some (.int .u8 l[i]) := by
  obtain ⟨b, o, rfl, hb, hc⟩ := h.at (i := i) (by simpa [byteCells] using hi)
  exact ⟨b, o, rfl, hb, hc i _ (by simp [byteCells, hi])⟩
theorem row_far {w w' : World} {a : Option Addr} {cs : List Value} {g : Nat} (h : RowAt w a cs) (ho : w.grownBy w' (some g)) (hne : cs ≠ [] → ∀ b o, a = some ⟨b, o, none⟩ → b ≠ g) : RowAt w' a cs := by
  rcases h with h | ⟨b, o, rfl, hlt, hc⟩
  · exact Or.inl h
  · by_cases h0 : cs = []
    · exact Or.inl h0
    · exact Or.inr ⟨b, o, rfl, Nat.lt_of_lt_of_le hlt ho.size, fun i v hv => ho.cell (hc i v hv) (fun e => hne h0 b o rfl (by injection e))⟩
theorem only_drewN {a w : World} {row : Option Nat} (h : a.grownBy w row) (n : Nat) : a.grownBy (w.drewN n) row := ⟨h.os, h.tape, h.output, h.size, h.block⟩
theorem only_drew {a w : World} {row : Option Nat} (h : a.grownBy w row) : a.grownBy w.drew row := ⟨h.os, h.tape, h.output, h.size, h.block⟩

set_option maxRecDepth 10000 in
set_option maxHeartbeats 1000000 in
theorem l1Byte (g : Nat) (w : World) (hc : CurAt w g) :
    Calls Tryd.prog 102 #[.pointer (some ⟨g, 0, none⟩)] w fun e w' => Num0 256 e ∧ CurAt w' g ∧ w.grownBy w' (some g) := by
  obtain ⟨a, c, l, i, h, hk, hr, hl, h1, h2, hne⟩ := hc
  have c0 : w.cell? ⟨g, 0, none⟩ = some (.slice a l.length c) := hk.cell 0
  have c1 : w.cell? ⟨g, 1, none⟩ = some (.int .i64 i) := hk.cell 1
  have c2 : w.cell? ⟨g, 2, none⟩ = some (.int .i64 h) := hk.cell 2
  have f1 := hk.frozen 1
  have f2 := hk.frozen 2
  have Hk := Lib.hid hk; clear hk
  have Hl := Lib.hid hl; have Hne := Lib.hid hne; clear hl hne
  by_cases hlt : i < l.length
  · obtain ⟨b, o, rfl, hbw, hcell⟩ := byteCells_at hr hlt
    have hbg : b ≠ g := Nat.ne_of_lt <| Hne.out (by intro e; rw [byteCells, List.map_eq_nil_iff] at e; rw [e] at hlt; simp at hlt) b o rfl
    have hx := Hl.out l[i] (List.getElem_mem hlt)
    generalize l[i] = x at hcell hx
    have hi0 : (0 : Int) ≤ (i : Int) := by omega
    have hi1 : (i : Int) < (l.length : Int) := by omega
    go_enter Tryd.func102, Tryd.ntmps102
    go_wp2
    go_quiet (fail)
    go_wp2
    go_quiet (fail)
    go_wp2
    go_quiet (fail)
    go_wp2
    go_ret
    refine ⟨⟨_, rfl, and_byte _⟩, ⟨some ⟨b, o, none⟩, c, l, i + 1, wrap64 (wrap64 (h * 6364136223846793005) + 1442695040888963407), ?_, row_far hr ?_ (fun h b o e => Nat.ne_of_lt (Hne.out h b o e)), Hl.out, by omega, h2, Hne.out⟩, ?_⟩
    · refine (Blk.put (cs := #[.slice (some ⟨b, o, none⟩) l.length c, .int .i64 i, .int .i64 (wrap64 (wrap64 (h * 6364136223846793005) + 1442695040888963407))]) ?_ 1 _)
      repeat (first | apply Blk.drewN | apply Blk.drew)
      exact Hk.out.put 2 _
    all_goals
      refine only_setCell ?_ (Or.inl rfl) _
      repeat (first | apply only_drewN | apply only_drew)
      exact only_setCell (World.grownBy.refl _ _) (Or.inl rfl) _
  · have hge : (l.length : Int) ≤ (i : Int) := by omega
    go_enter Tryd.func102, Tryd.ntmps102
    go_wp2
    go_quiet (fail)
    go_wp2
    go_quiet (fail)
    go_wp2
    go_ret
    refine ⟨⟨_, rfl, and_byte _⟩, ⟨a, c, l, i, wrap64 (wrap64 (h * 6364136223846793005) + 1442695040888963407), ?_, row_far hr ?_ (fun h b o e => Nat.ne_of_lt (Hne.out h b o e)), Hl.out, h1, h2, Hne.out⟩, ?_⟩
    · repeat (first | apply Blk.drewN | apply Blk.drew)
      exact Hk.out.put 2 _
    all_goals
      repeat (first | apply only_drewN | apply only_drew)
      exact only_setCell (World.grownBy.refl _ _) (Or.inl rfl) _
theorem CurAt.lt {w : World} {g : Nat} (h : CurAt w g) : g < w.heap.size := by
  obtain ⟨a, c, l, i, h, hk, _⟩ := h
  exact hk.lt
theorem CurAt.alloc {w : World} {g : Nat} (h : CurAt w g) (o : Obj) : CurAt (w.alloc o) g := by
  obtain ⟨a, c, l, i, h, hk, hr, rest⟩ := h
  exact ⟨a, c, l, i, h, hk.alloc o, hr.below ((Below.refl _ _).alloc (Nat.le_refl _) o), rest⟩
theorem CurAt.below {w w' : World} {g : Nat} (h : CurAt w g) (hb : Below w.heap.size w w') : CurAt w' g := by
  have hlt := h.lt
  obtain ⟨a, c, l, i, h, hk, hr, rest⟩ := h
  exact ⟨a, c, l, i, h, hk.below hb hlt, hr.below hb, rest⟩
/-- The cursor, where what turned lies above it. -/
theorem CurAt.above {w w' : World} {g : Nat} {row : Option Nat} (h : CurAt w g) (hg : w.grownBy w' row) (hr : ∀ k, row = some k → g < k) : CurAt w' g := by
  obtain ⟨a, c, l, i, h, hk, hrow, hl, h1, h2, hne⟩ := h
  refine ⟨a, c, l, i, h, hk.grown hg (fun e => by have := hr g e.symm; omega), ?_, hl, h1, h2, hne⟩
  cases hrw : row with
  | none => exact hrow.below (by subst hrw; exact ⟨hg.os, hg.tape, hg.output, hg.size, fun k hk => hg.block k hk (by simp)⟩)
  | some k => subst hrw; exact row_far hrow hg (fun h b o e => by have := hne h b o e; have := hr k rfl; omega)
/-- What a call over the cursor comes to: its answer, the cursor, nothing else turned. -/
def Drawn (w : World) (g : Nat) (A : Ending → Prop) (e : Ending) (w' : World) : Prop := A e ∧ CurAt w' g ∧ w.grownBy w' (some g)

set_option maxRecDepth 10000 in
set_option maxHeartbeats 1000000 in
theorem l1Below (g : Nat) (n : Int) (w : World) (hc : CurAt w g) (h0 : 0 < n) (hn : n ≤ 4294967296) :
    Calls Tryd.prog 86 #[.pointer (some ⟨g, 0, none⟩), .int .i64 n] w (Drawn w g (Num0 n)) := by
  have h0' : ¬ n ≤ 0 := by omega
  have hz : ¬ n = 0 := by omega
  have hz1 : (n == 0) = false := by rw [beq_eq_false_iff_ne]; omega
  by_cases h256 : n ≤ 256
  · go_enter Tryd.func86, Tryd.ntmps86
    go_wp2_with fail
    refine (l1Byte g w hc).mono ?_
    rintro e w1 ⟨⟨x, rfl, hx0, hx1⟩, hc1, hg1⟩
    go_wp2
    go_ret
    exact ⟨⟨_, rfl, Int.emod_nonneg _ hz, Int.emod_lt_of_pos _ h0⟩, hc1, hg1⟩
  · go_enter Tryd.func86, Tryd.ntmps86
    go_wp2_with fail
    refine (l1Byte g w hc).mono ?_
    rintro e w1 ⟨⟨x, rfl, hx0, hx1⟩, hc1, hg1⟩
    go_wp2_with fail
    refine (l1Byte g w1 hc1).mono ?_
    rintro e w2 ⟨⟨y, rfl, hy0, hy1⟩, hc2, hg2⟩
    go_wp2_with fail
    refine (l1Byte g w2 hc2).mono ?_
    rintro e w3 ⟨⟨z, rfl, hz0, hz1⟩, hc3, hg3⟩
    go_wp2_with fail
    refine (l1Byte g w3 hc3).mono ?_
    rintro e w4 ⟨⟨u, rfl, hu0, hu1⟩, hc4, hg4⟩
    go_wp2
    go_ret
    exact ⟨⟨_, rfl, Int.emod_nonneg _ hz, Int.emod_lt_of_pos _ h0⟩, hc4, ((hg1.trans hg2).trans hg3).trans hg4⟩

/-- A new cursor over what stands at a. -/
def NewCur (w : World) (e : Ending) (w' : World) : Prop := ∃ g, e = .returned (.pointer (some ⟨g, 0, none⟩)) ∧ w.heap.size ≤ g ∧ CurAt w' g ∧ Below w.heap.size w w'
set_option maxRecDepth 100000 in
set_option maxHeartbeats 1000000 in
theorem l1New (a : Option Addr) (c : Nat) (l : List Int) (w : World) (ha : RowAt w a (byteCells l)) (hb : ∀ x ∈ l, 0 ≤ x ∧ x ≤ 255) (hsz : l.length ≤ 1048576) :
    Calls Tryd.prog 55 #[.slice a l.length c] w (NewCur w) := by
  have Hb := Lib.hid hb; clear hb
  have Ha := Lib.hid ha
  go_enter Tryd.func55, Tryd.ntmps55
  go_wp2
  go_loop [3, 4] (fun hv iv => ∃ i : Nat, ∃ h : Int, i ≤ l.length ∧ iv = .int .i64 i ∧ hv = .int .i64 h) (fun _ iv => l.length - (intOf iv).toNat)
  case atStart => exact ⟨0, _, by omega, rfl, rfl⟩
  case round =>
    obtain ⟨i, h, hi, rfl, rfl⟩ := hrel
    have fin : NewCur w (.returned (.pointer (some ⟨w.heap.size, 0, none⟩))) (w.alloc (.cells #[.slice a l.length c, .int .i64 0, .int .i64 h] 72)) := by
      have hbl : Below w.heap.size w (w.alloc (.cells #[.slice a l.length c, .int .i64 0, .int .i64 h] 72)) := (Below.refl _ _).alloc (Nat.le_refl _) _
      refine ⟨_, rfl, Nat.le_refl _, ⟨a, c, l, 0, h, Blk.new _ _ _, Ha.out.below hbl, Hb.out, Nat.zero_le _, by omega, fun h0 b o e => ?_⟩, hbl⟩
      rcases Ha.out with he | ⟨b', o', e', hlt, _⟩
      · exact absurd he h0
      · rw [e'] at e
        injection e with e
        injection e with e1 e2
        omega
    have Fin := Lib.hid fin; clear fin
    by_cases hlt : i < l.length
    · obtain ⟨b, o, rfl, hbw, hcell⟩ := byteCells_at ha hlt
      have hx := Hb.out l[i] (List.getElem_mem hlt)
      generalize l[i] = x at hcell hx
      by_cases h4 : i < 4000
      · go_wp2
        go_round
        case rel => exact ⟨i + 1, _, by omega, by go_num, rfl⟩
        case measure => simp [intOf]; omega
      · go_wp2
        go_ret
        exact Fin.out
    · go_wp2
      go_ret
      exact Fin.out

theorem Drawn.trans {w w1 : World} {g : Nat} {A : Ending → Prop} {e : Ending} {w' : World} (h1 : w.grownBy w1 (some g)) (h : Drawn w1 g A e w') : Drawn w g A e w' := ⟨h.1, h.2.1, h1.trans h.2.2⟩

def IsBool (e : Ending) : Prop := ∃ b : Bool, e = .returned (.bool b)
set_option maxRecDepth 10000 in
set_option maxHeartbeats 1000000 in
theorem l1Once (g : Nat) (n : Int) (w : World) (hc : CurAt w g) (h0 : 0 < n) (hn : n ≤ 4294967296) :
    Calls Tryd.prog 89 #[.pointer (some ⟨g, 0, none⟩), .int .i64 n] w (Drawn w g IsBool) := by
  go_enter Tryd.func89, Tryd.ntmps89
  go_wp2_with fail
  refine (l1Below g n w hc h0 hn).mono ?_
  rintro e w1 ⟨⟨x, rfl, hx0, hx1⟩, hc1, hg1⟩
  go_wp2
  go_ret
  exact ⟨⟨_, rfl⟩, hc1, hg1⟩

def OneOf (l : List Value) (e : Ending) : Prop := ∃ v, v ∈ l ∧ e = .returned v
set_option maxRecDepth 10000 in
set_option maxHeartbeats 1000000 in
theorem l1PickInt (g gl c : Nat) (l : List Int) (w : World) (hc : CurAt w g) (hk : Blk w gl 3 (intCells l).toArray) (hne : gl ≠ g) (h0 : 0 < l.length) (hn : l.length ≤ 1000) :
    Calls Tryd.prog 87 #[.pointer (some ⟨g, 0, none⟩), .slice (some ⟨gl, 0, none⟩) l.length c] w (Drawn w g (OneOf (intCells l))) := by
  go_enter Tryd.func87, Tryd.ntmps87
  go_wp2_with fail
  refine (l1Below g l.length w hc (by omega) (by omega)).mono ?_
  rintro e w1 ⟨⟨x, rfl, hx0, hx1⟩, hc1, hg1⟩
  obtain ⟨i, rfl⟩ := Int.eq_ofNat_of_zero_le hx0
  have hi : i < l.length := by omega
  have hcell : w1.cell? ⟨gl, i, none⟩ = some (.int .i64 l[i]) := by
    rw [(hk.grown hg1 (by simpa using hne)).cell i]; simp [intCells, hi]
  have hm : Value.int .i64 l[i] ∈ intCells l := List.mem_map.2 ⟨_, List.getElem_mem hi, rfl⟩
  go_wp2
  go_ret
  exact ⟨⟨_, hm, rfl⟩, hc1, hg1⟩

def textCells (l : List ByteArray) : List Value := l.map Value.string
set_option maxRecDepth 10000 in
set_option maxHeartbeats 1000000 in
theorem l1Pick (g gl c : Nat) (l : List ByteArray) (w : World) (hc : CurAt w g) (hk : Blk w gl 9 (textCells l).toArray) (hne : gl ≠ g) (h0 : 0 < l.length) (hn : l.length ≤ 1000) :
    Calls Tryd.prog 88 #[.pointer (some ⟨g, 0, none⟩), .slice (some ⟨gl, 0, none⟩) l.length c] w (Drawn w g (OneOf (textCells l))) := by
  go_enter Tryd.func88, Tryd.ntmps88
  go_wp2_with fail
  refine (l1Below g l.length w hc (by omega) (by omega)).mono ?_
  rintro e w1 ⟨⟨x, rfl, hx0, hx1⟩, hc1, hg1⟩
  obtain ⟨i, rfl⟩ := Int.eq_ofNat_of_zero_le hx0
  have hi : i < l.length := by omega
  have hcell : w1.cell? ⟨gl, i, none⟩ = some (.string l[i]) := by
    rw [(hk.grown hg1 (by simpa using hne)).cell i]; simp [textCells, hi]
  have hm : Value.string l[i] ∈ textCells l := List.mem_map.2 ⟨_, List.getElem_mem hi, rfl⟩
  go_wp2
  go_ret
  exact ⟨⟨_, hm, rfl⟩, hc1, hg1⟩
end Go.Proofs.YtpgdmbolckogcaaDoor
namespace Go.Proofs.YtpgdmbolckogcaaDoor
open Go.ChangeShapes Go.WideShapes Go.ChangeAt Go.RowKit Go.WideMaps Go.WideElems
theorem Read.cellsU8 : Tryd.prog.cellsOf 5 = 1 := by kernel_rfl
theorem Read.lt_of_cell8 {w : World} {b o : Nat} {v : Value} (h : w.cell? ⟨b, o, none⟩ = some v) : b < w.heap.size := by
  rcases Nat.lt_or_ge b w.heap.size with hl | hl
  · exact hl
  · simp [World.cell?, Array.getElem?_eq_none hl] at h
set_option maxRecDepth 100000 in
theorem Read.bytes_of {H : Type} {enc : TypeId × Value → H} {W : World} {base : Nat} {v : Value} {d : DataW H} {p : List MemPlace} (hval : Value.okWide Tryd.prog W .any base 31 v)
    (h : DataW.Trod enc Tryd.prog W 0 (fun _ => true) true 31 v d p) :
    ∃ a c l, v = .slice a (l : List Int).length c ∧ RowAt W a (byteCells l) ∧ l.length ≤ maxLen ∧ ∀ x ∈ l, 0 ≤ x ∧ x ≤ 255 := by
  obtain ⟨a0, len, cap, rfl⟩ := okWide_slice Tryd.underlying31 hval
  obtain ⟨fuel, hf⟩ := h
  rcases open_ints Tryd.underlying31 Tryd.underlying5 Read.cellsU8 hf with ⟨hcs, hx⟩ | ⟨a, len', cap', ss, hcs, _, hl, hm, hz, hx, hcell, hws⟩
  · simp [Value.cells] at hcs
    obtain ⟨rfl, rfl, rfl⟩ := hcs
    exact ⟨none, 0, [], rfl, Or.inl rfl, Nat.zero_le _, fun _ h => by cases h⟩
  · simp [Value.cells] at hcs
    obtain ⟨rfl, rfl, rfl⟩ := hcs
    simp only [if_true] at hz
    have hlen : (ss.take len).length = len := by rw [List.length_take]; omega
    refine ⟨some a, cap, ss.take len, by rw [hlen], ?_, by rw [hlen]; omega, fun s hs => bounds_u8 (hws s (List.mem_of_mem_take hs))⟩
    by_cases h0 : len = 0
    · left; subst h0; simp [byteCells]
    · right
      have hc0 := hcell 0 (by omega)
      obtain ⟨b, o, spot⟩ := a
      have hspot : spot = none := by simpa [Addr.add] using World.cell?_spot hc0
      subst hspot
      have hadd : ∀ i, (⟨b, o, none⟩ : Addr).add i = ⟨b, o + i, none⟩ := fun i => by unfold Addr.add; split <;> simp_all
      refine ⟨b, o, rfl, ?_, fun i v hv => ?_⟩
      · rw [hadd] at hc0; exact Read.lt_of_cell8 hc0
      · simp only [byteCells, List.getElem?_map, Option.map_eq_some_iff] at hv
        obtain ⟨s, hs, rfl⟩ := hv
        rw [List.getElem?_take] at hs
        split at hs
        · have := hcell i (by omega)
          rw [hadd] at this
          rw [this, List.getD_eq_getElem?_getD, hs]; rfl
        · cases hs
/-- big: more than so many bytes. -/
theorem big (a : Option Addr) (n c : Nat) (w : World) (hn : n ≤ 9223372036854775807) :
    Calls Tryd.prog 15 #[.slice a n c] w fun e w' => e = .returned (.bool (decide (1048576 < n))) ∧ w = w' := by
  go_enter Tryd.func15, Tryd.ntmps15
  go_wp2
  go_ret
  exact ⟨congrArg (fun b => Ending.returned (Value.bool b)) (decide_eq_decide.2 (by omega)), rfl⟩
end Go.Proofs.YtpgdmbolckogcaaDoor
namespace Go.Proofs.YtpgdmbolckogcaaDoor
open Go.RowKit

/-- An inner row as the outer one holds it. -/
structure Hd where
  a : Option Addr
  c : Nat
  l : List Int
def Hd.val (h : Hd) : Value := .slice h.a h.l.length h.c
def hdCells (hs : List Hd) : List Value := hs.map Hd.val
theorem hdCells_len (hs : List Hd) : (hdCells hs).length = hs.length := by simp [hdCells]
theorem hdCells_get {hs : List Hd} {i : Nat} (hi : i < hs.length) : (hdCells hs)[i]? = some hs[i].val := by simp [hdCells, hi]
theorem hdCells_one (hs : List Hd) : ∀ u ∈ hdCells hs, u.oneCell' = true := by
  intro u hu
  simp only [hdCells, List.mem_map] at hu
  obtain ⟨h, _, rfl⟩ := hu
  rfl
theorem hdCells_snoc (hs : List Hd) (h : Hd) : hdCells hs ++ [h.val] = hdCells (hs ++ [h]) := by simp [hdCells]

/-- The address a leads to rows of integers. -/
def GridAt (w : World) (a : Option Addr) (L : List (List Int)) : Prop := ∃ hs : List Hd, hs.map Hd.l = L ∧ RowAt w a (hdCells hs) ∧ ∀ h ∈ hs, RowAt w h.a (intCells h.l)
theorem GridAt.below {w w' : World} {a : Option Addr} {L : List (List Int)} (h : GridAt w a L) (hb : Below w.heap.size w w') : GridAt w' a L := by
  obtain ⟨hs, h1, h2, h3⟩ := h
  exact ⟨hs, h1, h2.below hb, fun x hx => (h3 x hx).below hb⟩
theorem GridAt.at {w : World} {a : Option Addr} {L : List (List Int)} (h : GridAt w a L) {i : Nat} (hi : i < L.length) :
    ∃ b o ai ci, a = some ⟨b, o, none⟩ ∧ b < w.heap.size ∧ w.cell? ⟨b, o + i, none⟩ = some (.slice ai L[i].length ci) ∧ RowAt w ai (intCells L[i]) := by
  obtain ⟨hs, rfl, h2, h3⟩ := h
  have hi' : i < hs.length := by simpa using hi
  obtain ⟨b, o, rfl, hb, hc⟩ := h2.at (i := i) (by rw [hdCells_len]; exact hi')
  refine ⟨b, o, hs[i].a, hs[i].c, rfl, hb, ?_, ?_⟩
  · rw [hc i _ (hdCells_get hi')]; simp [Hd.val]
  · have := h3 hs[i] (List.getElem_mem hi')
    simpa using this
theorem GridAt.get {w : World} {a : Option Addr} {L : List (List Int)} (h : GridAt w a L) {i : Nat} {r : List Int} (hi : L[i]? = some r) :
    ∃ b o ai ci, a = some ⟨b, o, none⟩ ∧ b < w.heap.size ∧ w.cell? ⟨b, o + i, none⟩ = some (.slice ai r.length ci) ∧ RowAt w ai (intCells r) := by
  obtain ⟨h1, rfl⟩ := List.getElem?_eq_some_iff.1 hi
  exact h.at h1
theorem intCells_get? {w : World} {a : Option Addr} {l : List Int} {x : Int} (h : RowAt w a (intCells l)) {i : Nat} (hi : l[i]? = some x) : ∃ b o, a = some ⟨b, o, none⟩ ∧ b < w.heap.size ∧ w.cell? ⟨b, o + i, none⟩ = some (.int .i64 x) := by
  obtain ⟨h1, rfl⟩ := List.getElem?_eq_some_iff.1 hi
  exact intCells_at h h1
theorem get_some {α : Type} {l : List α} {i : Nat} (h : i < l.length) : ∃ x, l[i]? = some x := ⟨l[i], List.getElem?_eq_getElem h⟩
theorem get_mem {α : Type} {l : List α} {i : Nat} {x : α} (h : l[i]? = some x) : x ∈ l := List.mem_of_getElem? h
theorem GridAt.nil (w : World) (a : Option Addr) : GridAt w a [] := ⟨[], rfl, Or.inl rfl, fun _ h => by cases h⟩

/-- Nothing is written but into the blocks from lo on below hi, and into new ones. -/
def Only (lo hi : Nat) (w w' : World) : Prop :=
  w'.os = w.os ∧ w'.tape = w.tape ∧ w'.output = w.output ∧ w.heap.size ≤ w'.heap.size ∧ ∀ k, k < w.heap.size → k < lo ∨ hi ≤ k → w'.heap[k]? = w.heap[k]?
section
variable {lo hi : Nat} {w w' w'' : World}
theorem Only.refl (lo hi : Nat) (w : World) : Only lo hi w w := ⟨rfl, rfl, rfl, Nat.le_refl _, fun _ _ _ => rfl⟩
theorem Only.size (h : Only lo hi w w') : w.heap.size ≤ w'.heap.size := h.2.2.2.1
theorem Only.trans (h : Only lo hi w w') (h' : Only lo hi w' w'') : Only lo hi w w'' :=
  ⟨h'.1.trans h.1, h'.2.1.trans h.2.1, h'.2.2.1.trans h.2.2.1, Nat.le_trans h.size h'.size, fun k hk ho => (h'.2.2.2.2 k (Nat.lt_of_lt_of_le hk h.size) ho).trans (h.2.2.2.2 k hk ho)⟩
theorem Only.mono (h : Only lo hi w w') {lo' hi' : Nat} (h1 : lo' ≤ lo) (h2 : hi ≤ hi') : Only lo' hi' w w' :=
  ⟨h.1, h.2.1, h.2.2.1, h.size, fun k hk ho => h.2.2.2.2 k hk (by omega)⟩
theorem Only.of_below (h : Below w.heap.size w w') (lo hi : Nat) : Only lo hi w w' := ⟨h.os, h.tape, h.output, h.size, fun k hk _ => h.block k hk⟩
theorem Only.of_grown {g : Nat} (h : w.grownBy w' (some g)) : Only g (g + 1) w w' := ⟨h.os, h.tape, h.output, h.size, fun k hk ho => h.block k hk (fun e => by cases e; omega)⟩
theorem Only.below (h : Only lo hi w w') {B : Nat} (hB : B ≤ lo) (hw : B ≤ w.heap.size) : Below B w w' := ⟨h.1, h.2.1, h.2.2.1, h.size, fun k hk => h.2.2.2.2 k (by omega) (Or.inl (by omega))⟩
theorem Only.block {g : Nat} {t : TypeId} {cs : Array Value} (h : Only lo hi w w') (hk : Blk w g t cs) (ho : g < lo ∨ hi ≤ g) : Blk w' g t cs := (h.2.2.2.2 g hk.lt ho).trans hk
end

/-- A row whose block is known, from lo on below hi: it can be written. -/
def RowIn (w : World) (lo hi : Nat) (t : TypeId) (a : Option Addr) (cs : List Value) : Prop :=
  cs = [] ∨ ∃ g o all, a = some ⟨g, o, none⟩ ∧ lo ≤ g ∧ g < hi ∧ Blk w g t all ∧ ∀ i v, cs[i]? = some v → all[o + i]? = some v
section
variable {w w' : World} {lo hi : Nat} {t : TypeId} {a : Option Addr} {cs : List Value}
theorem RowIn.fresh (h : RowIn w lo hi t a cs) : Fresh w lo t a cs := by
  rcases h with h | ⟨g, o, all, rfl, h1, _, hk, hc⟩
  · exact Or.inl h
  · exact Or.inr ⟨g, o, all, rfl, h1, hk, hc⟩
theorem RowIn.of_fresh (h : Fresh w lo t a cs) : RowIn w lo w.heap.size t a cs := by
  rcases h with h | ⟨g, o, all, rfl, h1, hk, hc⟩
  · exact Or.inl h
  · exact Or.inr ⟨g, o, all, rfl, h1, hk.lt, hk, hc⟩
theorem RowIn.of_blk {g : Nat} (h : Blk w g t cs.toArray) (h1 : lo ≤ g) (h2 : g < hi) : RowIn w lo hi t (some ⟨g, 0, none⟩) cs :=
  Or.inr ⟨g, 0, _, rfl, h1, h2, h, fun i v hv => by rw [Nat.zero_add]; simpa using hv⟩
theorem RowIn.row (h : RowIn w lo hi t a cs) : RowAt w a cs := h.fresh.row
theorem RowIn.mono (h : RowIn w lo hi t a cs) {lo' hi' : Nat} (h1 : lo' ≤ lo) (h2 : hi ≤ hi') : RowIn w lo' hi' t a cs := by
  rcases h with h | ⟨g, o, all, rfl, h3, h4, hk, hc⟩
  · exact Or.inl h
  · exact Or.inr ⟨g, o, all, rfl, Nat.le_trans h1 h3, Nat.lt_of_lt_of_le h4 h2, hk, hc⟩
theorem RowIn.below (h : RowIn w lo hi t a cs) (hb : Below w.heap.size w w') : RowIn w' lo hi t a cs := by
  rcases h with h | ⟨g, o, all, rfl, h3, h4, hk, hc⟩
  · exact Or.inl h
  · exact Or.inr ⟨g, o, all, rfl, h3, h4, hk.below hb hk.lt, hc⟩
theorem RowIn.only {lo' hi' : Nat} (h : RowIn w lo hi t a cs) (ho : Only lo' hi' w w') (hd : hi ≤ lo' ∨ hi' ≤ lo) : RowIn w' lo hi t a cs := by
  rcases h with h | ⟨g, o, all, rfl, h3, h4, hk, hc⟩
  · exact Or.inl h
  · exact Or.inr ⟨g, o, all, rfl, h3, h4, ho.block hk (by omega), hc⟩
end

/-- Two inner rows lie in blocks of their own. -/
def Apart (h h' : Hd) : Prop := h.l = [] ∨ h'.l = [] ∨ ∀ g o g' o', h.a = some ⟨g, o, none⟩ → h'.a = some ⟨g', o', none⟩ → g ≠ g'
/-- The inner rows lie in blocks of their own, and none is longer than its capacity. -/
def Apts (hs : List Hd) : Prop := hs.Pairwise Apart ∧ ∀ h ∈ hs, h.l.length ≤ h.c
theorem Apts.nil : Apts [] := ⟨List.Pairwise.nil, fun _ h => by cases h⟩
theorem Apts.one {x : Hd} (hc : x.l.length ≤ x.c) : Apts [x] := ⟨List.pairwise_singleton _ _, fun h hh => by rw [List.mem_singleton.1 hh]; exact hc⟩
theorem Apts.snoc {hs : List Hd} {x : Hd} (h : Apts hs) (hx : ∀ y ∈ hs, Apart y x) (hc : x.l.length ≤ x.c) : Apts (hs ++ [x]) := by
  refine ⟨?_, fun y hy => ?_⟩
  · rw [List.pairwise_append]
    exact ⟨h.1, List.pairwise_singleton _ _, fun y hy z hz => by rw [List.mem_singleton.1 hz]; exact hx y hy⟩
  · rcases List.mem_append.1 hy with hy | hy
    · exact h.2 y hy
    · rw [List.mem_singleton.1 hy]; exact hc
/-- Rows of rows in blocks from lo on below hi, each in one of its own: they can be written. -/
def GridIn (w : World) (lo hi : Nat) (a : Option Addr) (L : List (List Int)) : Prop :=
  ∃ hs : List Hd, hs.map Hd.l = L ∧ RowIn w lo hi 36 a (hdCells hs) ∧ (∀ h ∈ hs, RowIn w lo hi 3 h.a (intCells h.l)) ∧ Apts hs
section
variable {w w' : World} {lo hi : Nat} {a : Option Addr} {L : List (List Int)}
theorem GridIn.grid (h : GridIn w lo hi a L) : GridAt w a L := by
  obtain ⟨hs, h1, h2, h3, _⟩ := h
  exact ⟨hs, h1, h2.row, fun x hx => (h3 x hx).row⟩
theorem GridIn.mono (h : GridIn w lo hi a L) {lo' hi' : Nat} (h1 : lo' ≤ lo) (h2 : hi ≤ hi') : GridIn w lo' hi' a L := by
  obtain ⟨hs, e, h3, h4, h5⟩ := h
  exact ⟨hs, e, h3.mono h1 h2, fun x hx => (h4 x hx).mono h1 h2, h5⟩
theorem GridIn.below (h : GridIn w lo hi a L) (hb : Below w.heap.size w w') : GridIn w' lo hi a L := by
  obtain ⟨hs, e, h3, h4, h5⟩ := h
  exact ⟨hs, e, h3.below hb, fun x hx => (h4 x hx).below hb, h5⟩
theorem GridIn.only {lo' hi' : Nat} (h : GridIn w lo hi a L) (ho : Only lo' hi' w w') (hd : hi ≤ lo' ∨ hi' ≤ lo) : GridIn w' lo hi a L := by
  obtain ⟨hs, e, h3, h4, h5⟩ := h
  exact ⟨hs, e, h3.only ho hd, fun x hx => (h4 x hx).only ho hd, h5⟩
theorem GridIn.nil (w : World) (lo hi : Nat) (a : Option Addr) : GridIn w lo hi a [] := ⟨[], rfl, Or.inl rfl, fun _ h => (by cases h), Apts.nil⟩
end
/-- Rows that are read, none longer than its capacity. -/
def GridC (w : World) (a : Option Addr) (L : List (List Int)) : Prop := ∃ hs : List Hd, hs.map Hd.l = L ∧ RowAt w a (hdCells hs) ∧ (∀ h ∈ hs, RowAt w h.a (intCells h.l)) ∧ ∀ h ∈ hs, h.l.length ≤ h.c
theorem GridC.grid {w : World} {a : Option Addr} {L : List (List Int)} (h : GridC w a L) : GridAt w a L := by
  obtain ⟨hs, h1, h2, h3, _⟩ := h; exact ⟨hs, h1, h2, h3⟩
theorem GridIn.gridc {w : World} {lo hi : Nat} {a : Option Addr} {L : List (List Int)} (h : GridIn w lo hi a L) : GridC w a L := by
  obtain ⟨hs, h1, h2, h3, h4⟩ := h
  exact ⟨hs, h1, h2.row, fun x hx => (h3 x hx).row, h4.2⟩
theorem GridC.below {w w' : World} {a : Option Addr} {L : List (List Int)} (h : GridC w a L) (hb : Below w.heap.size w w') : GridC w' a L := by
  obtain ⟨hs, h1, h2, h3, h4⟩ := h
  exact ⟨hs, h1, h2.below hb, fun x hx => (h3 x hx).below hb, h4⟩
theorem GridC.cell {w : World} {a : Option Addr} {L : List (List Int)} (h : GridC w a L) {i : Nat} {r : List Int} (hi : L[i]? = some r) : ∃ b o ai ci, a = some ⟨b, o, none⟩ ∧ r.length ≤ ci ∧ (∀ W, Below w.heap.size w W → W.cell? ⟨b, o + i, none⟩ = some (.slice ai r.length ci)) ∧ ∀ W, Below w.heap.size w W → RowAt W ai (intCells r) := by
  obtain ⟨hs, rfl, h2, h3, h4⟩ := h
  obtain ⟨h5, rfl⟩ := List.getElem?_eq_some_iff.1 hi
  have h6 : i < hs.length := by simpa using h5
  obtain ⟨b, o, rfl, hb, hc⟩ := h2.at (i := i) (by rw [hdCells_len]; exact h6)
  have hm := List.getElem_mem h6
  refine ⟨b, o, hs[i].a, hs[i].c, rfl, by have := h4 _ hm; simpa using this, fun W hW => ?_, fun W hW => ?_⟩
  · rw [hW.cell hb, hc i _ (hdCells_get h6)]; simp [Hd.val]
  · have := (h3 _ hm).below hW; simpa using this

/-- How many integers the rows hold together. -/
def sumLen (L : List (List Int)) : Nat := (L.map List.length).sum
theorem sumLen_flat (L : List (List Int)) : sumLen L = L.flatten.length := by simp [sumLen, List.length_flatten]
theorem sumLen_nil : sumLen [] = 0 := rfl
theorem sumLen_take {L : List (List Int)} {i : Nat} (h : i < L.length) : sumLen (L.take (i + 1)) = sumLen (L.take i) + L[i].length := by
  unfold sumLen; rw [List.take_succ_eq_append_getElem h, List.map_append, List.sum_append]; simp
theorem sumLen_le (L : List (List Int)) (i : Nat) : sumLen (L.take i) ≤ sumLen L := by
  have : sumLen L = sumLen (L.take i) + sumLen (L.drop i) := by unfold sumLen; rw [← List.sum_append, ← List.map_append, List.take_append_drop]
  omega
theorem sumLen_all (L : List (List Int)) : sumLen (L.take L.length) = sumLen L := by rw [List.take_of_length_le (Nat.le_refl _)]
theorem len_le_sumLen {L : List (List Int)} {i : Nat} (h : i < L.length) : L[i].length ≤ sumLen L := by
  have := sumLen_take h; have := sumLen_le L (i + 1); omega
def tot (L : List (List Int)) : Nat := L.length + sumLen L
end Go.Proofs.YtpgdmbolckogcaaDoor
namespace Go.Proofs.YtpgdmbolckogcaaDoor
open Go.RowKit

theorem info_ints : (Tryd.prog.info? 36).map (fun i => (i.zero, i.size, i.bytes)) = some (some (.slice none 0 0), 1, 24) := by kernel_rfl
theorem info_ints_parts : ∃ i, Tryd.prog.info? 36 = some i ∧ i.zero = some (.slice none 0 0) ∧ i.size = 1 ∧ i.bytes = 24 := by
  obtain ⟨i, h1, h2, h3, h4⟩ := info_parts info_ints
  exact ⟨i, h1, h2, h3, h4⟩

/-- The outer block N with the rows hs laid, the rest nil. -/
def GridPart (w : World) (N n : Nat) (hs : List Hd) : Prop :=
  Blk w N 36 (hdCells hs ++ List.replicate (n - hs.length) (Value.slice none 0 0)).toArray ∧ (∀ h ∈ hs, RowIn w N w.heap.size 3 h.a (intCells h.l)) ∧ Apts hs
theorem GridPart.start (w : World) (n : Nat) : GridPart (w.alloc (.cells (List.replicate n (Value.slice none 0 0)).toArray 36)) w.heap.size n [] :=
  ⟨by simpa [hdCells] using Blk.new w 36 (List.replicate n (Value.slice none 0 0)).toArray, fun _ h => (by cases h), Apts.nil⟩
theorem GridPart.cell {w : World} {N n : Nat} {hs : List Hd} (h : GridPart w N n hs) (hn : hs.length < n) : w.cell? ⟨N, hs.length, none⟩ = some (Value.slice none 0 0) := by
  rw [h.1.cell hs.length]
  have e : n - hs.length = (n - (hs.length + 1)) + 1 := by omega
  rw [e, List.replicate_succ]
  simp [List.getElem?_append, hdCells_len]
theorem GridPart.step {w w1 : World} {N n : Nat} {hs : List Hd} {l : List Int} {c : Nat} (h : GridPart w N n hs) (hn : hs.length < n) (hk : Blk w1 w.heap.size 3 (intCells l).toArray) (hb : Below w.heap.size w w1) (hlc : l.length ≤ c) :
    GridPart (w1.setCell ⟨N, hs.length, none⟩ (.slice (some ⟨w.heap.size, 0, none⟩) l.length c)) N n (hs ++ [⟨some ⟨w.heap.size, 0, none⟩, c, l⟩]) := by
  obtain ⟨h1, h2, h3⟩ := h
  have hN : N < w.heap.size := h1.lt
  have h1' := h1.below hb hN
  have hsz : (w1.setCell ⟨N, hs.length, none⟩ (.slice (some ⟨w.heap.size, 0, none⟩) l.length c)).heap.size = w1.heap.size := by simp [World.setCell]
  have hlt := hk.lt
  refine ⟨?_, ?_, ?_⟩
  · have e := h1'.put hs.length (.slice (some ⟨w.heap.size, 0, none⟩) l.length c)
    rw [List.length_append, List.length_singleton]
    have e2 : (hdCells hs ++ List.replicate (n - hs.length) (Value.slice none 0 0)).toArray.setIfInBounds hs.length (.slice (some ⟨w.heap.size, 0, none⟩) l.length c) = (hdCells (hs ++ [(⟨some ⟨w.heap.size, 0, none⟩, c, l⟩ : Hd)]) ++ List.replicate (n - (hs.length + 1)) (Value.slice none 0 0)).toArray := by
      rw [show n - hs.length = (n - (hs.length + 1)) + 1 from by omega, List.replicate_succ]
      simp only [List.setIfInBounds_toArray, List.set_append, hdCells_len, Nat.lt_irrefl, if_false, Nat.sub_self, List.set_cons_zero]
      rw [← hdCells_snoc, List.append_assoc]; rfl
    rw [e2] at e
    exact e
  · intro x hx
    rcases List.mem_append.1 hx with hx | hx
    · have := (h2 x hx).below hb
      rcases this with e | ⟨g, o, all, e, e1, e2, e3, e4⟩
      · exact Or.inl e
      · have hne : g ≠ N := by
          rintro rfl
          have := h1'; unfold Blk at this e3; rw [this] at e3
          injection e3 with e3; injection e3 with _ e5 _
          exact absurd e5 (by decide)
        refine Or.inr ⟨g, o, all, e, e1, by rw [hsz]; have := hb.size; omega, e3.far hne _, e4⟩
    · simp only [List.mem_singleton] at hx
      subst hx
      exact RowIn.of_blk (hk.far (by show w.heap.size ≠ N; omega) _) (by omega) (by rw [hsz]; exact hlt)
  · refine h3.snoc (fun x hx => ?_) hlc
    rcases h2 x hx with e | ⟨g2, o2, all, e, e3, e4, _⟩
    · exact Or.inl (by simpa [intCells] using e)
    · right; right
      rintro g o g' o' e1 e2
      cases e2
      rw [e] at e1; cases e1; omega
theorem GridPart.done {w : World} {N n : Nat} {hs : List Hd} (h : GridPart w N n hs) (hn : hs.length = n) : GridIn w N w.heap.size (some ⟨N, 0, none⟩) (hs.map Hd.l) := by
  obtain ⟨h1, h2, h3⟩ := h
  have hlt := h1.lt
  rw [hn, Nat.sub_self, List.replicate_zero, List.append_nil] at h1
  exact ⟨hs, rfl, RowIn.of_blk h1 (Nat.le_refl _) hlt, h2, h3⟩

set_option maxRecDepth 10000 in
set_option maxHeartbeats 400000 in
theorem toIntSS (a : Option Addr) (c : Nat) (L : List (List Int)) (w : World) (ha : GridAt w a L) (hl : tot L ≤ 1048576) :
    Calls Tryd.prog 8 #[.slice a L.length c] w fun e w' => e = .returned (.slice (some ⟨w.heap.size, 0, none⟩) L.length L.length) ∧ GridIn w' w.heap.size w'.heap.size (some ⟨w.heap.size, 0, none⟩) L ∧ Below w.heap.size w w' := by
  obtain ⟨i0, hi, hz0, hz1, hz2⟩ := info_ints_parts
  have hln : L.length ≤ 1048576 := by unfold tot at hl; omega
  have hmk := fun W => run_make_rowN (P := Tryd.prog) 22 36 i0 _ Tryd.underlying22 hi hz0 .i64 .i64 L.length L.length (Nat.le_refl _) (by rw [hz2]; omega) (by omega) W
  have hmc : madeCells (Value.slice none 0 0).cells (L.length * i0.size) = (List.replicate L.length (Value.slice none 0 0)).toArray := by
    rw [hz1, Nat.mul_one]; exact made_one _ _
  rw [hmc] at hmk
  have hst := GridPart.start w L.length
  generalize hN : w.heap.size = N at *
  have HN := Lib.hid hN
  have Hst := Lib.hid hst
  have HL := Lib.hid hl
  have Ha := Lib.hid ha
  clear hi hz0 hz1 hz2 hmc hst hl ha
  go_enter Tryd.func8, Tryd.ntmps8
  go_wp2
  go_loopw [4] (fun iv wr => ∃ i : Nat, i ≤ L.length ∧ iv = .int .i64 i ∧ (∃ hs, Hid (hs.map Hd.l = L.take i ∧ GridPart wr N L.length hs)) ∧ Below N w wr) (fun iv _ => L.length - (intOf iv).toNat)
  case atStart => exact ⟨0, by omega, rfl, ⟨[], Lib.hid ⟨by simp, Hst.out⟩⟩, by have h := (Below.refl w.heap.size w).alloc (Nat.le_refl _) (.cells (List.replicate L.length (Value.slice none 0 0)).toArray 36); rw [HN.out] at h; exact h⟩
  case round =>
    obtain ⟨i, hi, rfl, ⟨hs, hp⟩, hb⟩ := hrel
    by_cases hlt : i < L.length
    · have hlen : hs.length = i := by have := congrArg List.length hp.out.1; rw [List.length_map, List.length_take] at this; omega
      obtain ⟨b, o, ai, ci, rfl, hbw, hcell, hrow⟩ := (Ha.out.below (by rw [HN.out]; exact hb)).at hlt
      have Hrow := Lib.hid hrow
      have hll : L[i].length ≤ 1048576 := by have := len_le_sumLen hlt; have := HL.out; unfold tot at this; omega
      have htk : L.take (i + 1) = L.take i ++ [L[i]] := List.take_succ_eq_append_getElem hlt
      generalize L[i] = r at *
      have Htk := Lib.hid htk
      clear hrow htk
      subst hlen
      go_wp2_with fail
      refine (toIntS ai ci r wr Hrow.out hll).mono ?_
      rintro e w1 ⟨rfl, hk1, hb1⟩
      have hNlt : N < wr.heap.size := hp.out.2.1.lt
      have hdst : w1.cell? ⟨N, hs.length, none⟩ = some (.slice none 0 0) := by
        rw [hb1.cell (p := ⟨N, hs.length, none⟩) hNlt]; exact hp.out.2.cell hlt
      have hfz : w1.frozen? ⟨N, hs.length, none⟩ = false := (hp.out.2.1.below hb1 hNlt).frozen _
      have Hk1 := Lib.hid hk1
      have Hb1 := Lib.hid hb1
      have Hb := Lib.hid hb
      clear hk1 hb1 hb
      go_wp2
      go_roundw
      case rel =>
        refine ⟨hs.length + 1, by omega, by go_num, ⟨_, Lib.hid ⟨?_, hp.out.2.step (c := r.length) hlt Hk1.out Hb1.out (Nat.le_refl _)⟩⟩, ?_⟩
        · rw [List.map_append, hp.out.1, Htk.out]; rfl
        · have h := Hb.out.trans (Hb1.out.mono (by omega))
          exact h.setCell (Nat.le_refl _) _
      case measure => simp [intOf]; omega
    · obtain rfl : i = L.length := by omega
      go_wp2
      go_ret
      refine ⟨rfl, ?_, hb⟩
      have h1 := hp.out.1
      rw [List.take_of_length_le (Nat.le_refl _)] at h1
      have h := hp.out.2.done (by rw [← h1]; simp)
      rw [h1] at h
      exact h

end Go.Proofs.YtpgdmbolckogcaaDoor
namespace Go.Proofs.YtpgdmbolckogcaaDoor
open Go.RowKit

theorem RowIn.grownOf {w w' : World} {lo hi : Nat} {t : TypeId} {a : Option Addr} {cs : List Value} {row : Option Nat} (h : RowIn w lo hi t a cs) (hg : w.grownBy w' row) {e : TypeId} (he : e ≠ t) (hr : ∀ k, row = some k → ∃ cur, w.heap[k]? = some (.cells cur e (0, 0))) : RowIn w' lo hi t a cs := by
  rcases h with h | ⟨g, o, all, rfl, h3, h4, hk, hc⟩
  · exact Or.inl h
  · refine Or.inr ⟨g, o, all, rfl, h3, h4, hk.grown hg (fun e' => ?_), hc⟩
    obtain ⟨cur, h5⟩ := hr g e'.symm
    unfold Blk at hk
    rw [hk] at h5
    injection h5 with h5; injection h5 with _ h6 _
    exact he h6.symm
theorem own_type {w : World} {base n : Nat} {e : TypeId} {v : Value} {xs : List Value} (h : w.ownsRow base e 1 v n xs) : ∀ k, v.ownBlock = some k → ∃ cur, w.heap[k]? = some (.cells cur e (0, 0)) := by
  intro k hk
  rcases h.2 with ⟨rfl, _⟩ | ⟨g, cap, cur, rfl, _, hh, _⟩
  · cases hk
  · cases hk; exact ⟨cur, hh⟩
/-- One polygon more. -/
theorem grid_step {N i c : Nat} {hs : List Hd} {wr w2 w3 : World} {ov : Value} {a : Option Addr} {l : List Int} {o : Obj} (hin : ∀ h ∈ hs, RowIn wr N wr.heap.size 3 h.a (intCells h.l)) (hap : Apts hs)
    (hown : w2.ownsRow N 36 1 ov i (hdCells hs)) (hN : N ≤ wr.heap.size) (hf : Fresh w2 wr.heap.size 3 a (intCells l)) (hb : Below wr.heap.size wr w2) (hg : (w2.alloc o).grownBy w3 ov.ownBlock) (hlc : l.length ≤ c) :
    (∀ h ∈ hs ++ [(⟨a, c, l⟩ : Hd)], RowIn w3 N w3.heap.size 3 h.a (intCells h.l)) ∧ Apts (hs ++ [(⟨a, c, l⟩ : Hd)]) := by
  have hal : Below w2.heap.size w2 (w2.alloc o) := (Below.refl w2.heap.size w2).alloc (Nat.le_refl _) o
  have hty := own_type (hown.alloc o)
  have hs3 : w2.heap.size ≤ w3.heap.size := Nat.le_trans hal.size hg.size
  have hs2 := hb.size
  have hold : ∀ h ∈ hs, RowIn w3 N wr.heap.size 3 h.a (intCells h.l) := fun h hh => (((hin h hh).below hb).below hal).grownOf hg (by decide) hty
  have hnew : RowIn w3 wr.heap.size w2.heap.size 3 a (intCells l) := ((RowIn.of_fresh hf).below hal).grownOf hg (by decide) hty
  constructor
  · intro h hh
    rcases List.mem_append.1 hh with hh | hh
    · exact (hold h hh).mono (Nat.le_refl _) (by omega)
    · simp only [List.mem_singleton] at hh
      subst hh
      exact hnew.mono hN hs3
  · refine hap.snoc (fun x hx => ?_) hlc
    rcases hold x hx with e | ⟨g, o1, all, e, e1, e2, _⟩
    · exact Or.inl (by simpa [intCells] using e)
    · rcases hnew with e' | ⟨g', o', all', e', e1', e2', _⟩
      · exact Or.inr (Or.inl (by simpa [intCells] using e'))
      · right; right
        intro g1 o1 g2 o2 h1 h2
        rw [e] at h1; cases h1
        rw [show (⟨a, c, l⟩ : Hd).a = a from rfl, e'] at h2; cases h2
        omega
theorem grid_done {w : World} {N n : Nat} {hs : List Hd} {v : Value} (hown : w.ownsRow N 36 1 v n (hdCells hs)) (hn : hs.length = n) (hin : ∀ h ∈ hs, RowIn w N w.heap.size 3 h.a (intCells h.l)) (hap : Apts hs) :
    ∃ a c, v = .slice a n c ∧ n ≤ c ∧ c ≤ maxLen ∧ GridIn w N w.heap.size a (hs.map Hd.l) := by
  obtain ⟨a, c, rfl, hc, hf⟩ := own_fresh hown (by rw [hdCells_len]; exact hn)
  refine ⟨a, c, rfl, hc, ?_, ⟨hs, rfl, RowIn.of_fresh hf, hin, hap⟩⟩
  rcases hown.2 with ⟨e, _⟩ | ⟨g, cap, cur, e, _, _, _, hm, _⟩
  · cases e; unfold maxLen; omega
  · cases e; exact hm
/-- The call gives these rows, in memory of its own, and a bool. -/
def GivesRows2 (w : World) (L : List (List Int)) (b : Bool) (e : Ending) (w' : World) : Prop :=
  ∃ a c, e = .returned (.tuple #[.slice a L.length c, .bool b]) ∧ L.length ≤ c ∧ c ≤ maxLen ∧ GridIn w' w.heap.size w'.heap.size a L ∧ Below w.heap.size w w'
theorem GivesRows2.none {w w' : World} {a : Option Addr} {c : Nat} {b : Bool} (hb : Below w.heap.size w w') (hc : c ≤ maxLen) : GivesRows2 w [] b (.returned (.tuple #[.slice a 0 c, .bool b])) w' :=
  ⟨a, c, rfl, Nat.zero_le _, hc, GridIn.nil _ _ _ _, hb⟩
theorem made_rows {N : Nat} {w : World} (h : w.heap.size = N) : (w.alloc (.cells #[] 36)).ownsRow N 36 1 (.slice (some ⟨w.heap.size, 0, none⟩) 0 0) 0 (hdCells []) :=
  World.ownsRow_made (base := N) (e := 36) (size := 1) w #[] 0 (by omega) (by unfold maxLen; omega) (by rfl)


/-- A row of the call's own is laid in a literal of one row. -/
theorem grid_single {w : World} {N c : Nat} {a : Option Addr} {l : List Int} (hf : Fresh w N 3 a (intCells l)) (hN : N ≤ w.heap.size) (hlc : l.length ≤ c) :
    GridIn (w.alloc (.cells #[.slice a l.length c] 36)) N (w.heap.size + 1) (some ⟨w.heap.size, 0, none⟩) [l] := by
  refine ⟨[⟨a, c, l⟩], rfl, RowIn.of_blk (Blk.new w _ _) hN (by omega), fun h hh => ?_, Apts.one hlc⟩
  rw [List.mem_singleton.1 hh]
  exact ((RowIn.of_fresh hf).below ((Below.refl w.heap.size w).alloc (Nat.le_refl _) _)).mono (Nat.le_refl _) (by omega)
/-- append of a literal of elements of one cell, to a row of the call's own. -/
theorem append_lits {P : Program} {ops : Array Oper} {rest : List Oper} {o : Oper} {a : Act} {Q : Exit → Act → World → Prop} {W : World} (us : List Value) (m : Nat) (hm : us.length = m) {te : TypeId} (hgd : o.guard = none) (s x : Operand) (t : TypeId)
    (ho : o.op = .call { callee := .builtin .append, args := #[s, x], argTypes := #[t, t] })
    (base : Nat) (e : TypeId) (i : TypeInfo) (z : Value) (bytes : Nat) (ht : P.underlying t = some (.slice e)) (hi : P.info? e = some i) (hz : i.zero = some z)
    (hsize : i.size = 1) (hby : i.bytes = bytes) (hzs : z.cells.size = 1)
    (v : Value) (n : Nat) (xs : List Value) (hs : a.eval s = v) (hown : W.ownsRow base e 1 v n xs)
    (h1 : ∀ u ∈ us, u.oneCell' = true) (c : Nat) (hx : a.eval x = .slice (some ⟨W.heap.size, 0, none⟩) m c)
    (h63 : n + m ≤ maxLen) (hbytes : (n + m) * bytes ≤ 140737488355328) (hbase : base ≤ W.heap.size)
    (h : ∀ v' w', w'.ownsRow base e 1 v' (n + m) (xs ++ us) → (W.alloc (.cells us.toArray te)).grownBy w' v.ownBlock → wpList P ops Q rest (a.put o.dst v') w') :
    wpList P ops Q (o :: rest) a (W.alloc (.cells us.toArray te)) :=
  wpList_append_own _ hgd s x t ho base e i z 1 bytes ht hi hz hsize hby hzs (by decide) v n xs hs (hown.alloc _) ⟨W.heap.size, 0, none⟩ m c us hx (by rw [hm, Nat.mul_one])
    (fun j y hj => by
      have hb : Blk (W.alloc (.cells us.toArray te)) W.heap.size te us.toArray := Blk.new W te _
      have hadd : (⟨W.heap.size, 0, none⟩ : Addr).add j = ⟨W.heap.size, j, none⟩ := by unfold Addr.add; split <;> simp_all
      rw [hadd, hb.cell j]
      simpa using hj)
    h1 h63 hbytes (Nat.le_trans hbase (by simp)) (fun v' w' e1 e2 _ => h v' w' e1 e2)
end Go.Proofs.YtpgdmbolckogcaaDoor
namespace Go.Proofs.YtpgdmbolckogcaaDoor
open Go.RowKit

namespace Word
def Letter (x : Int) : Prop := x ≠ 0 ∧ -8 ≤ x ∧ x ≤ 8
instance (x : Int) : Decidable (Letter x) := by unfold Letter; exact inferInstance
def IsW (l : List Int) : Prop := (∀ x ∈ l, Letter x) ∧ l.length ≤ 24
instance (l : List Int) : Decidable (IsW l) := by unfold IsW; exact inferInstance
theorem IsW.at {l : List Int} (h : IsW l) {i : Nat} (hi : i < l.length) : Letter l[i] := h.1 _ (List.getElem_mem hi)
theorem bad_at {l : List Int} {i : Nat} (hi : i < l.length) (h : ¬ Letter l[i]) : ¬ IsW l := fun hw => h (hw.at hi)
theorem letter_iff (x : Int) : Letter x ↔ (x ≠ 0 ∧ -8 ≤ x ∧ x ≤ 8) := Iff.rfl
theorem letter_false {x : Int} (h : ¬ (x ≠ 0 ∧ -8 ≤ x ∧ x ≤ 8)) : decide (Letter x) = false := decide_eq_false h
theorem letter_true {x : Int} (h : x ≠ 0 ∧ -8 ≤ x ∧ x ≤ 8) : decide (Letter x) = true := decide_eq_true h
theorem letter_neg {x : Int} (h : ¬ (1 ≤ x ∧ x ≤ 8)) : decide (Letter x) = decide (-8 ≤ x ∧ x ≤ -1) := decide_eq_decide.2 (by rw [letter_iff]; omega)
theorem isW_len {l : List Int} (h : ∀ j (hj : j < l.length), j < l.length → Letter l[j]) : decide (IsW l) = decide (l.length ≤ 24) :=
  decide_eq_decide.2 ⟨fun x => x.2, fun hl => ⟨fun x hx => by obtain ⟨i, hi, rfl⟩ := List.mem_iff_getElem.1 hx; exact h i hi hi, hl⟩⟩
theorem all_letters {l : List Int} (h : ∀ j (hj : j < l.length), Letter l[j]) : ∀ x ∈ l, Letter x := by
  intro x hx
  obtain ⟨i, hi, rfl⟩ := List.mem_iff_getElem.1 hx
  exact h i hi

/-- The inverse of letters. -/
def inv (l : List Int) : List Int := (l.map fun x => -x).reverse
theorem inv_len (l : List Int) : (inv l).length = l.length := by simp [inv]
theorem inv_nil : inv [] = [] := rfl
theorem inv_cons (x : Int) (r : List Int) : inv (x :: r) = inv r ++ [-x] := by simp [inv]
theorem inv_drop {l : List Int} {i : Nat} (h : i < l.length) : inv (l.drop i) = inv (l.drop (i + 1)) ++ [-l[i]] := by
  rw [List.drop_eq_getElem_cons h, inv_cons]

/-- What stands after one letter more. -/
def redStep (out : List Int) (x : Int) : List Int := if out.getLast? = some (-x) then out.dropLast else out ++ [x]
def red (l : List Int) : List Int := l.foldl redStep []
theorem red_snoc (l : List Int) (x : Int) : red (l ++ [x]) = redStep (red l) x := by simp [red]
theorem red_take {l : List Int} {i : Nat} (h : i < l.length) : red (l.take (i + 1)) = redStep (red (l.take i)) l[i] := by
  rw [List.take_succ_eq_append_getElem h, red_snoc]
theorem redStep_len (out : List Int) (x : Int) : (redStep out x).length ≤ out.length + 1 := by
  unfold redStep; split <;> simp <;> omega
theorem red_len (l : List Int) : (red l).length ≤ l.length := by
  have key : ∀ (m s : List Int), (m.foldl redStep s).length ≤ s.length + m.length := by
    intro m
    induction m with
    | nil => intro s; simp
    | cons x m ih => intro s; have := ih (redStep s x); have := redStep_len s x; simp only [List.foldl_cons, List.length_cons]; omega
  have := key l []
  simpa [red] using this
theorem redStep_mem {p : Int → Prop} {out : List Int} {x : Int} (ho : ∀ y ∈ out, p y) (hx : p x) : ∀ y ∈ redStep out x, p y := by
  intro y hy
  unfold redStep at hy
  split at hy
  · exact ho y ((List.dropLast_sublist _).subset hy)
  · rcases List.mem_append.1 hy with h | h
    · exact ho y h
    · simp at h; rw [h]; exact hx
theorem red_mem {p : Int → Prop} {l : List Int} (h : ∀ x ∈ l, p x) : ∀ y ∈ red l, p y := by
  have key : ∀ (m s : List Int), (∀ x ∈ m, p x) → (∀ y ∈ s, p y) → ∀ y ∈ m.foldl redStep s, p y := by
    intro m
    induction m with
    | nil => intro s _ hs; exact hs
    | cons x m ih => intro s hm hs; exact ih _ (fun y hy => hm y (List.mem_cons_of_mem _ hy)) (redStep_mem hs (hm x (List.mem_cons_self ..)))
  exact key l [] h (fun _ h => by cases h)
theorem red_w {l : List Int} (h : IsW l) : IsW (red l) := ⟨red_mem h.1, Nat.le_trans (red_len l) h.2⟩
theorem step_back {out : List Int} {x : Int} {k : Nat} (hk : out.length = k + 1) (h : out[k]? = some (-x)) : redStep out x = out.take k := by
  have : out.getLast? = some (-x) := by rw [List.getLast?_eq_getElem?, hk]; simpa using h
  rw [redStep, if_pos this, List.dropLast_eq_take, hk]; simp
theorem step_on {out : List Int} {x : Int} {k : Nat} (hk : out.length = k + 1) {y : Int} (hy : out[k]? = some y) (h : y ≠ -x) : redStep out x = out ++ [x] := by
  have : out.getLast? ≠ some (-x) := by rw [List.getLast?_eq_getElem?, hk]; simp [hy, h]
  rw [redStep, if_neg this]
theorem step_first {out : List Int} {x : Int} (hk : out.length = 0) : redStep out x = out ++ [x] := by
  obtain rfl := List.eq_nil_of_length_eq_zero hk
  simp [redStep]

/-- The list without its two ends. -/
def mid (l : List Int) : List Int := (l.drop 1).dropLast
theorem mid_len (l : List Int) : (mid l).length = l.length - 2 := by simp [mid]; omega
theorem mid_get {l : List Int} {i : Nat} (h : i + 2 < l.length) : (mid l)[i]? = l[1 + i]? := by
  unfold mid
  rw [List.dropLast_eq_take, List.getElem?_take, if_pos (by simp; omega), List.getElem?_drop]
def core (l : List Int) : List Int := if h : 2 ≤ l.length ∧ l[0]? = (l.getLast?.map fun x => -x) then core (mid l) else l
termination_by l.length
decreasing_by rw [mid_len]; omega
theorem core_step {l : List Int} {x y : Int} {k : Nat} (hk : l.length = k + 2) (hx : l[0]? = some x) (hy : l[k + 1]? = some y) (h : x = -y) : core l = core (mid l) := by
  rw [core, dif_pos]
  refine ⟨by omega, ?_⟩
  rw [List.getLast?_eq_getElem?, hk, hx, show k + 2 - 1 = k + 1 from rfl, hy, h]; rfl
theorem core_stop {l : List Int} {x y : Int} {k : Nat} (hk : l.length = k + 2) (hx : l[0]? = some x) (hy : l[k + 1]? = some y) (h : x ≠ -y) : core l = l := by
  rw [core, dif_neg]
  rintro ⟨_, h2⟩
  rw [List.getLast?_eq_getElem?, hk, hx, show k + 2 - 1 = k + 1 from rfl, hy] at h2
  exact h (by simpa using h2)
theorem core_short {l : List Int} (hk : l.length < 2) : core l = l := by
  rw [core, dif_neg]
  rintro ⟨h, _⟩
  omega
theorem mid_mem {l : List Int} {y : Int} (h : y ∈ mid l) : y ∈ l := List.mem_of_mem_drop ((List.dropLast_sublist _).subset h)
theorem core_len (l : List Int) : (core l).length ≤ l.length := by
  induction h : l.length using Nat.strongRecOn generalizing l with
  | ind n ih =>
    rw [core]
    split
    · have := ih (mid l).length (by rw [mid_len]; omega) (mid l) rfl
      rw [mid_len] at this; omega
    · omega
theorem core_mem {l : List Int} {y : Int} (hy : y ∈ core l) : y ∈ l := by
  induction h : l.length using Nat.strongRecOn generalizing l with
  | ind n ih =>
    rw [core] at hy
    split at hy
    · exact mid_mem (ih (mid l).length (by rw [mid_len]; omega) hy rfl)
    · exact hy
theorem core_w {l : List Int} (h : IsW l) : IsW (core l) := ⟨fun x hx => h.1 x (core_mem hx), Nat.le_trans (core_len l) h.2⟩

/-- The word turned by k places. -/
def turn (l : List Int) (k : Int) : List Int := l.drop (k % (l.length : Int)).toNat ++ l.take (k % (l.length : Int)).toNat
theorem turn_len (l : List Int) (k : Int) : (turn l k).length = l.length := by
  unfold turn
  rw [List.length_append, List.length_drop, List.length_take]
  rcases Nat.eq_zero_or_pos l.length with h | h
  · omega
  · have := Int.emod_lt_of_pos k (show (0 : Int) < l.length by omega)
    have := Int.emod_nonneg k (show (l.length : Int) ≠ 0 by omega)
    omega
theorem turn_mem {l : List Int} {k y : Int} (h : y ∈ turn l k) : y ∈ l := by
  rcases List.mem_append.1 h with h | h
  · exact List.mem_of_mem_drop h
  · exact List.mem_of_mem_take h
theorem turn_w {l : List Int} (h : IsW l) (k : Int) : IsW (turn l k) := ⟨fun x hx => h.1 x (turn_mem hx), by rw [turn_len]; exact h.2⟩

/-- The answers. -/
def inverse (l : List Int) : List Int := if IsW l then inv l else []
def reduce (l : List Int) : List Int := if IsW l then red l else []
def coreOf (l : List Int) : List Int := if IsW l then core (red l) else []
def turned (l : List Int) (k : Int) : List Int := if IsW l then turn l k else []
def Conj (v w : List Int) : Prop := IsW v ∧ IsW w ∧ ((∃ k, k < (core (red v)).length ∧ turn (core (red v)) (k : Nat) = core (red w)) ∨ core (red v) = [] ∧ core (red w) = [])
def ProdOk (v w : List Int) : Prop := IsW (v ++ w)
def product (v w : List Int) : List Int := if IsW (v ++ w) then red (v ++ w) else []
theorem prod_iff (v w : List Int) : IsW (v ++ w) ↔ IsW v ∧ IsW w ∧ v.length + w.length ≤ 24 := by
  unfold IsW
  simp only [List.mem_append, List.length_append]
  constructor
  · rintro ⟨h, hl⟩
    exact ⟨⟨fun x hx => h x (Or.inl hx), by omega⟩, ⟨fun x hx => h x (Or.inr hx), by omega⟩, hl⟩
  · rintro ⟨⟨h1, _⟩, ⟨h2, _⟩, hl⟩
    exact ⟨fun x hx => hx.elim (h1 x) (h2 x), hl⟩
def sumPut (s : List Int) (x : Int) : List Int := if 0 < x then s.set (x - 1).toNat (s.getD (x - 1).toNat 0 + 1) else s.set (-x - 1).toNat (s.getD (-x - 1).toNat 0 - 1)
def sums (l : List Int) : List Int := l.foldl sumPut (List.replicate 8 0)
def sumsOf (l : List Int) : List Int := if IsW l then sums l else []
theorem sumPut_len (s : List Int) (x : Int) : (sumPut s x).length = s.length := by unfold sumPut; split <;> simp
theorem sums_take {l : List Int} {i : Nat} (h : i < l.length) : sums (l.take (i + 1)) = sumPut (sums (l.take i)) l[i] := by
  rw [List.take_succ_eq_append_getElem h]; unfold sums; rw [List.foldl_append]; rfl
theorem sums_len (l : List Int) : (sums l).length = 8 := by
  have key : ∀ (m s : List Int), (m.foldl sumPut s).length = s.length := by
    intro m
    induction m with
    | nil => intro s; rfl
    | cons x m ih => intro s; rw [List.foldl_cons, ih, sumPut_len]
  rw [sums, key]; rfl
/-- A sum of letters is no greater than their number. -/
theorem sums_bound (l : List Int) : ∀ j, j < 8 → -(l.length : Int) ≤ (sums l).getD j 0 ∧ (sums l).getD j 0 ≤ l.length := by
  have key : ∀ (m s : List Int) (n : Nat), (∀ j, -(n : Int) ≤ s.getD j 0 ∧ s.getD j 0 ≤ n) → ∀ j, -((n + m.length : Nat) : Int) ≤ (m.foldl sumPut s).getD j 0 ∧ (m.foldl sumPut s).getD j 0 ≤ (n + m.length : Nat) := by
    intro m
    induction m with
    | nil => intro s n h j; simpa using h j
    | cons x m ih =>
      intro s n h j
      have := ih (sumPut s x) (n + 1) (fun j => by
        have hj := h j
        unfold sumPut
        split
        · have hx := h (x - 1).toNat
          rw [List.getD_eq_getElem?_getD, List.getElem?_set]
          rw [List.getD_eq_getElem?_getD] at hj
          split
          · split
            · simp only [Option.getD_some]; omega
            · simp; omega
          · omega
        · have hx := h (-x - 1).toNat
          rw [List.getD_eq_getElem?_getD, List.getElem?_set]
          rw [List.getD_eq_getElem?_getD] at hj
          split
          · split
            · simp only [Option.getD_some]; omega
            · simp; omega
          · omega) j
      simp only [List.foldl_cons, List.length_cons]
      rw [show n + (m.length + 1) = n + 1 + m.length from by omega]
      exact this
  intro j _
  have := key l (List.replicate 8 0) 0 (fun j => by
    rw [List.getD_eq_getElem?_getD, List.getElem?_replicate]; split <;> simp) j
  simpa [sums] using this

def low (x : Int) : UInt8 := if 0 < x then UInt8.ofNat (96 + x.toNat) else UInt8.ofNat (64 + (-x).toNat)
def text (l : List Int) : List UInt8 := l.map low
/-- WordText's answer. -/
def said (l : List Int) : List UInt8 := if IsW l then (if l = [] then [45] else text l) else []
/-- The letter of a byte; 0 where there is none. -/
def letterOf (b : UInt8) : Int := if 97 ≤ b.toNat ∧ b.toNat < 105 then (b.toNat : Int) - 96 else if 65 ≤ b.toNat ∧ b.toNat < 73 then -((b.toNat : Int) - 64) else 0
def Parses (s : List UInt8) : Prop := s = [45] ∨ (s ≠ [] ∧ s.length ≤ 24 ∧ ∀ b ∈ s, letterOf b ≠ 0)
instance (s : List UInt8) : Decidable (Parses s) := by unfold Parses; exact inferInstance
def parsed (s : List UInt8) : List Int := if s = [45] then [] else if Parses s then s.map letterOf else []
end Word
end Go.Proofs.YtpgdmbolckogcaaDoor
namespace Go.Proofs.YtpgdmbolckogcaaDoor
open Go.RowKit

namespace Glue
/-- One side more is counted. -/
def put (s : List Int) (x : Int) : List Int := s.set x.natAbs (s.getD x.natAbs 0 + 1)
def count (l : List Int) : List Int := l.foldl put (List.replicate 9 0)
def uses (L : List (List Int)) : List Int := count L.flatten
theorem put_len (s : List Int) (x : Int) : (put s x).length = s.length := by simp [put]
theorem foldl_len (l s : List Int) : (l.foldl put s).length = s.length := by
  induction l generalizing s with
  | nil => rfl
  | cons x l ih => rw [List.foldl_cons, ih, put_len]
theorem count_len (l : List Int) : (count l).length = 9 := by rw [count, foldl_len]; rfl
theorem count_snoc (l : List Int) (x : Int) : count (l ++ [x]) = put (count l) x := by simp [count]
theorem uses_len (L : List (List Int)) : (uses L).length = 9 := count_len _
/-- How often a letter occurs, counting inverses. -/
theorem count_get (l : List Int) : ∀ k, k < 9 → (count l).getD k 0 = ((l.filter fun x => x.natAbs == k).length : Int) := by
  have key : ∀ (m s : List Int) (k : Nat), s.length = 9 → k < 9 → (m.foldl put s).getD k 0 = s.getD k 0 + ((m.filter fun x => x.natAbs == k).length : Int) := by
    intro m
    induction m with
    | nil => intro s k _ _; simp
    | cons x m ih =>
      intro s k hs hk
      rw [List.foldl_cons, ih _ k (by rw [put_len]; exact hs) hk, List.filter_cons]
      by_cases e : x.natAbs = k
      · subst e
        have : (put s x).getD x.natAbs 0 = s.getD x.natAbs 0 + 1 := by
          rw [put, List.getD_eq_getElem?_getD, List.getElem?_set]; simp [hs, hk]
        rw [this]; simp; omega
      · have : (put s x).getD k 0 = s.getD k 0 := by
          rw [put, List.getD_eq_getElem?_getD, List.getElem?_set, if_neg e, List.getD_eq_getElem?_getD]
        rw [this]; simp [e]
  intro k hk
  have h := key l (List.replicate 9 0) k rfl hk
  rw [count, h, List.getD_eq_getElem?_getD, List.getElem?_replicate]; simp [hk]
theorem count_bound (l : List Int) (k : Nat) (hk : k < 9) : 0 ≤ (count l).getD k 0 ∧ (count l).getD k 0 ≤ l.length := by
  rw [count_get l k hk]
  have := List.length_filter_le (fun x : Int => x.natAbs == k) l
  omega
theorem count_zero {l : List Int} (h : ∀ x ∈ l, Word.Letter x) : (count l).getD 0 0 = 0 := by
  rw [count_get l 0 (by omega)]
  have : l.filter (fun x => x.natAbs == 0) = [] := by
    rw [List.filter_eq_nil_iff]
    intro x hx
    have := (h x hx).1
    simp; exact this
  rw [this]; rfl

/-- The sides up to the letter j of the polygon i. -/
def upTo (L : List (List Int)) (i j : Nat) : List Int := (L.take i).flatten ++ (L.getD i []).take j
theorem upTo_zero (L : List (List Int)) : upTo L 0 0 = [] := by simp [upTo]
theorem upTo_start (L : List (List Int)) (i : Nat) : upTo L i 0 = (L.take i).flatten := by simp [upTo]
theorem upTo_step {L : List (List Int)} {i j : Nat} {r : List Int} {x : Int} (hi : L[i]? = some r) (hj : r[j]? = some x) : upTo L i (j + 1) = upTo L i j ++ [x] := by
  unfold upTo
  obtain ⟨h1, rfl⟩ := List.getElem?_eq_some_iff.1 hj
  rw [List.getD_eq_getElem?_getD, hi, Option.getD_some, List.take_succ_eq_append_getElem h1, List.append_assoc]
theorem upTo_next {L : List (List Int)} {i : Nat} {r : List Int} (hi : L[i]? = some r) : upTo L i r.length = upTo L (i + 1) 0 := by
  obtain ⟨h1, rfl⟩ := List.getElem?_eq_some_iff.1 hi
  unfold upTo
  rw [List.getD_eq_getElem?_getD, List.getElem?_eq_getElem h1, Option.getD_some, List.take_of_length_le (Nat.le_refl _), List.take_succ_eq_append_getElem h1, List.flatten_append]
  simp
theorem upTo_all (L : List (List Int)) : upTo L L.length 0 = L.flatten := by rw [upTo_start, List.take_of_length_le (Nat.le_refl _)]
theorem upTo_len {L : List (List Int)} {i : Nat} {r : List Int} (j : Nat) (hi : L[i]? = some r) : (upTo L i j).length ≤ L.flatten.length := by
  have h : (upTo L i j).length ≤ (upTo L (i + 1) 0).length := by
    rw [← upTo_next hi]
    unfold upTo
    simp only [List.length_append, List.length_take]
    rw [List.getD_eq_getElem?_getD, hi, Option.getD_some]
    omega
  rw [upTo_start] at h
  have h2 := sumLen_le L (i + 1)
  rw [sumLen_flat, sumLen_flat] at h2
  omega

def RowOk (p : List Int) : Prop := p ≠ [] ∧ Word.IsW p
instance (p : List Int) : Decidable (RowOk p) := by unfold RowOk; exact inferInstance
def IsG (L : List (List Int)) : Prop := 1 ≤ L.length ∧ L.length ≤ 4 ∧ (∀ p ∈ L, RowOk p) ∧ sumLen L ≤ 20 ∧ ∀ n ∈ uses L, n ≤ 2
instance (L : List (List Int)) : Decidable (IsG L) := by unfold IsG; exact inferInstance
theorem rows_of {L : List (List Int)} (h : ∀ i (hi : i < L.length), i < L.length → RowOk L[i]) : ∀ p ∈ L, RowOk p := by
  intro p hp
  obtain ⟨i, hi, rfl⟩ := List.mem_iff_getElem.1 hp
  exact h i hi hi
theorem not_row {L : List (List Int)} {i : Nat} (hi : i < L.length) (h : ¬ RowOk L[i]) : decide (IsG L) = false :=
  decide_eq_false fun hg => h (hg.2.2.1 _ (List.getElem_mem hi))
theorem letters_of {L : List (List Int)} (h : ∀ p ∈ L, Word.IsW p) : ∀ x ∈ L.flatten, Word.Letter x := by
  intro x hx
  obtain ⟨p, hp, hx⟩ := List.mem_flatten.1 hx
  exact (h p hp).1 x hx
theorem IsG.w {L : List (List Int)} (h : IsG L) : ∀ p ∈ L, Word.IsW p := fun p hp => (h.2.2.1 p hp).2
theorem IsG.flat {L : List (List Int)} (h : IsG L) : L.flatten.length ≤ 20 := by rw [← sumLen_flat]; exact h.2.2.2.1
theorem uses_at {L : List (List Int)} (k : Nat) (hk : k < (uses L).length) : (uses L)[k] = (uses L).getD k 0 := by
  rw [List.getD_eq_getElem?_getD, List.getElem?_eq_getElem hk]; rfl
theorem all_small {L : List (List Int)} (h : ∀ k (hk : k < (uses L).length), k < 9 → (uses L)[k] ≤ 2) : ∀ n ∈ uses L, n ≤ 2 := by
  intro n hn
  obtain ⟨k, hk, rfl⟩ := List.mem_iff_getElem.1 hn
  exact h k hk (by rwa [uses_len] at hk)

/-- The letters below m that occur at least, and at most, some times. -/
def lettersTo (L : List (List Int)) (lo hi : Int) (m : Nat) : List Int := ((List.range m).filter fun k => decide (lo ≤ (uses L).getD k 0 ∧ (uses L).getD k 0 ≤ hi)).map Int.ofNat
def letters (L : List (List Int)) (lo hi : Int) : List Int := lettersTo L lo hi 9
theorem lettersTo_zero (L : List (List Int)) (lo hi : Int) : lettersTo L lo hi 0 = [] := rfl
theorem lettersTo_one {L : List (List Int)} (h : ∀ p ∈ L, Word.IsW p) {lo hi : Int} (hl : 1 ≤ lo) : lettersTo L lo hi 1 = [] := by
  have h0 : (uses L).getD 0 0 = 0 := count_zero (letters_of h)
  unfold lettersTo
  rw [show List.range 1 = [0] from rfl, List.filter_cons, h0, if_neg (by simp; omega)]
  rfl
theorem lettersTo_in {L : List (List Int)} {lo hi : Int} {m : Nat} (h : lo ≤ (uses L).getD m 0 ∧ (uses L).getD m 0 ≤ hi) : lettersTo L lo hi (m + 1) = lettersTo L lo hi m ++ [(m : Int)] := by
  unfold lettersTo
  rw [List.range_succ, List.filter_append, List.map_append, List.filter_cons, if_pos (by simpa using h)]
  rfl
theorem lettersTo_out {L : List (List Int)} {lo hi : Int} {m : Nat} (h : ¬ (lo ≤ (uses L).getD m 0 ∧ (uses L).getD m 0 ≤ hi)) : lettersTo L lo hi (m + 1) = lettersTo L lo hi m := by
  unfold lettersTo
  rw [List.range_succ, List.filter_append, List.map_append, List.filter_cons, if_neg (by simpa using h)]
  simp
theorem lettersTo_len (L : List (List Int)) (lo hi : Int) (m : Nat) : (lettersTo L lo hi m).length ≤ m := by
  unfold lettersTo
  rw [List.length_map]
  have := List.length_filter_le (fun k => decide (lo ≤ (uses L).getD k 0 ∧ (uses L).getD k 0 ≤ hi)) (List.range m)
  rwa [List.length_range] at this
theorem letters_mem {L : List (List Int)} {lo hi x : Int} (h : x ∈ letters L lo hi) : ∃ k : Nat, x = k ∧ k < 9 ∧ lo ≤ (uses L).getD k 0 ∧ (uses L).getD k 0 ≤ hi := by
  unfold letters lettersTo at h
  simp only [List.mem_map, List.mem_filter, List.mem_range, decide_eq_true_eq] at h
  obtain ⟨k, ⟨h1, h2⟩, rfl⟩ := h
  exact ⟨k, rfl, h1, h2⟩
def edgeLetters (L : List (List Int)) : List Int := if IsG L then letters L 1 2 else []
def freeLetters (L : List (List Int)) : List Int := if IsG L then letters L 1 1 else []
theorem edgeLetters_len (L : List (List Int)) : (edgeLetters L).length ≤ 9 := by
  unfold edgeLetters; split
  · exact lettersTo_len _ _ _ _
  · simp
theorem freeLetters_len (L : List (List Int)) : (freeLetters L).length ≤ 9 := by
  unfold freeLetters; split
  · exact lettersTo_len _ _ _ _
  · simp
end Glue
end Go.Proofs.YtpgdmbolckogcaaDoor
namespace Go.Proofs.YtpgdmbolckogcaaDoor
open Go.RowKit

set_option maxRecDepth 10000 in
set_option maxHeartbeats 400000 in
theorem impl_isLetter (x : Int) (w : World) : Calls Tryd.prog 91 #[.int .i64 x] w fun e w' => e = .returned (.bool (decide (Word.Letter x))) ∧ w' = w := by
  by_cases h0 : x = 0
  · have hd := Word.letter_false (x := x) (by omega)
    rw [hd]; subst h0; clear hd
    go_enter Tryd.func91, Tryd.ntmps91
    go_wp2
    go_ret
    exact ⟨rfl, rfl⟩
  · by_cases h1 : -8 ≤ x
    · by_cases h2 : x ≤ 8
      · have hd := Word.letter_true (x := x) (by omega)
        rw [hd]; clear hd
        go_enter Tryd.func91, Tryd.ntmps91
        go_wp2
        go_ret
        exact ⟨by simp [*], rfl⟩
      · have hd := Word.letter_false (x := x) (by omega)
        rw [hd]; clear hd
        go_enter Tryd.func91, Tryd.ntmps91
        go_wp2
        go_ret
        exact ⟨by simp [*], rfl⟩
    · have hd := Word.letter_false (x := x) (by omega)
      rw [hd]; clear hd
      go_enter Tryd.func91, Tryd.ntmps91
      go_wp2
      go_ret
      exact ⟨by simp [*], rfl⟩

set_option maxRecDepth 10000 in
set_option maxHeartbeats 400000 in
theorem spec_l1In (x lo hi : Int) (w : World) : Calls Tryd.prog 63 #[.int .i64 x, .int .i64 lo, .int .i64 hi] w fun e w' => e = .returned (.bool (decide (lo ≤ x ∧ x ≤ hi))) ∧ w' = w := by
  by_cases h1 : lo ≤ x
  · by_cases h2 : x ≤ hi
    · have hd : decide (lo ≤ x ∧ x ≤ hi) = true := by simp [h1, h2]
      rw [hd]; clear hd
      go_enter Tryd.func63, Tryd.ntmps63
      go_wp2
      go_ret
      exact ⟨by simp [*], rfl⟩
    · have hd : decide (lo ≤ x ∧ x ≤ hi) = false := by simp [h1, h2]
      rw [hd]; clear hd
      go_enter Tryd.func63, Tryd.ntmps63
      go_wp2
      go_ret
      exact ⟨by simp [*], rfl⟩
  · have hd : decide (lo ≤ x ∧ x ≤ hi) = false := by simp [h1]
    rw [hd]; clear hd
    go_enter Tryd.func63, Tryd.ntmps63
    go_wp2
    go_ret
    exact ⟨by simp [*], rfl⟩

set_option maxRecDepth 10000 in
set_option maxHeartbeats 400000 in
theorem spec_l2Letter (x : Int) (w : World) : Calls Tryd.prog 92 #[.int .i64 x] w fun e w' => e = .returned (.bool (decide (Word.Letter x))) ∧ w' = w := by
  by_cases h1 : 1 ≤ x ∧ x ≤ 8
  · have hd := Word.letter_true (x := x) (by omega)
    rw [hd]; clear hd
    have hc := spec_l1In x 1 8 w
    rw [show decide (1 ≤ x ∧ x ≤ 8) = true from by simp [h1]] at hc
    go_enter Tryd.func92, Tryd.ntmps92
    go_wp2_with fail
    refine hc.mono ?_
    rintro e w1 ⟨rfl, rfl⟩
    go_wp2
    go_ret
    exact ⟨rfl, rfl⟩
  · have hc := spec_l1In x 1 8 w
    rw [show decide (1 ≤ x ∧ x ≤ 8) = false from by simp only [decide_eq_false_iff_not]; exact h1] at hc
    have hd := Word.letter_neg h1
    rw [hd]; clear hd
    have hc2 := spec_l1In x (-8) (-1) w
    generalize decide (-8 ≤ x ∧ x ≤ -1) = r at hc2 ⊢
    clear h1
    go_enter Tryd.func92, Tryd.ntmps92
    go_wp2_with fail
    refine hc.mono ?_
    rintro e w1 ⟨rfl, rfl⟩
    go_wp2_with fail
    refine hc2.mono ?_
    rintro e w1 ⟨rfl, rfl⟩
    go_wp2
    go_ret
    exact ⟨rfl, rfl⟩

set_option maxRecDepth 10000 in
set_option maxHeartbeats 400000 in
theorem impl_IsWord_big (a : Option Addr) (c : Nat) (l : List Int) (w : World) (ha : RowAt w a (intCells l)) (hl : l.length ≤ 1000000000) :
    Calls Tryd.prog 60 #[.slice a l.length c] w fun e w' => e = .returned (.bool (decide (Word.IsW l))) ∧ Below w.heap.size w w' := by
  go_enter Tryd.func60, Tryd.ntmps60
  go_wp2
  go_loopw [2, 4, 7] (fun rv _ iv wr => rv = .bool false ∧ ∃ i : Nat, i ≤ l.length ∧ iv = .int .i64 i ∧ Hid (∀ j (hj : j < l.length), j < i → Word.Letter l[j]) ∧ Below w.heap.size w wr) (fun _ _ iv _ => l.length - (intOf iv).toNat)
  case atStart => exact ⟨rfl, 0, by omega, rfl, Lib.hid (fun j _ h => by omega), Below.refl _ _⟩
  case round =>
    obtain ⟨rfl, i, hi, rfl, hall, hb⟩ := hrel
    by_cases hlt : i < l.length
    · obtain ⟨b, o, rfl, hbw, hcell⟩ := intCells_at (ha.below hb) hlt
      have hc := impl_isLetter l[i] wr
      by_cases hL : Word.Letter l[i]
      · rw [decide_eq_true hL] at hc
        have Hc := Lib.hid hc; clear hc
        go_wp2_with fail
        refine Hc.out.mono ?_
        rintro e w1 ⟨rfl, rfl⟩
        go_wp2
        go_roundw
        case rel => exact ⟨rfl, i + 1, by omega, by go_num, Lib.hid (fun j hj h => by
          rcases Nat.lt_or_ge j i with h' | h'
          · exact hall.out j hj h'
          · obtain rfl : j = i := by omega
            exact hL), hb⟩
        case measure => simp [intOf]; omega
      · rw [decide_eq_false hL] at hc
        have hd : decide (Word.IsW l) = false := decide_eq_false (Word.bad_at hlt hL)
        have Hd := Lib.hid hd
        have Hc := Lib.hid hc; clear hc hd
        have HL := Lib.hid hL; clear hL
        go_wp2_with fail
        refine Hc.out.mono ?_
        rintro e w1 ⟨rfl, rfl⟩
        go_wp2
        go_ret
        refine ⟨?_, hb⟩
        rw [Hd.out]; rfl
    · obtain rfl : i = l.length := by omega
      have Hd := Lib.hid (Word.isW_len hall.out)
      by_cases h2 : l.length ≤ 24
      · go_wp2
        go_ret
        refine ⟨?_, hb⟩
        rw [Hd.out]; simp <;> omega
      · go_wp2
        go_ret
        refine ⟨?_, hb⟩
        rw [Hd.out]; simp <;> omega

set_option maxRecDepth 10000 in
set_option maxHeartbeats 400000 in
theorem spec_IsWord (a : Option Addr) (c : Nat) (l : List Int) (w : World) (ha : RowAt w a (intCells l)) (hl : l.length ≤ 1048576) :
    Calls Tryd.prog 62 #[.slice a l.length c] w fun e w' => e = .returned (.bool (decide (Word.IsW l))) ∧ Below w.heap.size w w' := by
  go_enter Tryd.func62, Tryd.ntmps62
  go_wp2
  go_loopw [2, 3] (fun rv iv wr => rv = .bool false ∧ ∃ i : Nat, i ≤ l.length ∧ iv = .int .i64 i ∧ Hid (∀ j (hj : j < l.length), j < i → Word.Letter l[j]) ∧ Below w.heap.size w wr) (fun _ iv _ => l.length - (intOf iv).toNat)
  case atStart => exact ⟨rfl, 0, by omega, rfl, Lib.hid (fun j _ h => by omega), Below.refl _ _⟩
  case round =>
    obtain ⟨rfl, i, hi, rfl, hall, hb⟩ := hrel
    by_cases hlt : i < l.length
    · obtain ⟨b, o, rfl, hbw, hcell⟩ := intCells_at (ha.below hb) hlt
      have hc := spec_l2Letter l[i] wr
      by_cases hL : Word.Letter l[i]
      · rw [decide_eq_true hL] at hc
        have Hc := Lib.hid hc; clear hc
        go_wp2_with fail
        refine Hc.out.mono ?_
        rintro e w1 ⟨rfl, rfl⟩
        go_wp2
        go_roundw
        case rel => exact ⟨rfl, i + 1, by omega, by go_num, Lib.hid (fun j hj h => by
          rcases Nat.lt_or_ge j i with h' | h'
          · exact hall.out j hj h'
          · obtain rfl : j = i := by omega
            exact hL), hb⟩
        case measure => simp [intOf]; omega
      · rw [decide_eq_false hL] at hc
        have hd : decide (Word.IsW l) = false := decide_eq_false (Word.bad_at hlt hL)
        have Hd := Lib.hid hd
        have Hc := Lib.hid hc; clear hc hd
        have HL := Lib.hid hL; clear hL
        go_wp2_with fail
        refine Hc.out.mono ?_
        rintro e w1 ⟨rfl, rfl⟩
        go_wp2
        go_ret
        refine ⟨?_, hb⟩
        rw [Hd.out]; rfl
    · obtain rfl : i = l.length := by omega
      have Hd := Lib.hid (Word.isW_len hall.out)
      by_cases h2 : l.length ≤ 24
      · go_wp2
        go_ret
        refine ⟨?_, hb⟩
        rw [Hd.out]; simp <;> omega
      · go_wp2
        go_ret
        refine ⟨?_, hb⟩
        rw [Hd.out]; simp <;> omega
theorem impl_IsWord (a : Option Addr) (c : Nat) (l : List Int) (w : World) (ha : RowAt w a (intCells l)) (hl : l.length ≤ 1048576) :
    Calls Tryd.prog 60 #[.slice a l.length c] w fun e w' => e = .returned (.bool (decide (Word.IsW l))) ∧ Below w.heap.size w w' :=
  impl_IsWord_big a c l w ha (Nat.le_trans hl (by decide))
end Go.Proofs.YtpgdmbolckogcaaDoor
namespace Go.Proofs.YtpgdmbolckogcaaDoor
open Go.RowKit

set_option maxRecDepth 10000 in
set_option maxHeartbeats 400000 in
theorem spec_l1Max (x y : Int) (w : World) : Calls Tryd.prog 105 #[.int .i64 x, .int .i64 y] w fun e w' => e = .returned (.int .i64 (max x y)) ∧ w' = w := by
  by_cases h : x > y
  · have hd : max x y = x := by omega
    rw [hd]; clear hd
    go_enter Tryd.func105, Tryd.ntmps105
    go_wp2
    go_ret
    exact ⟨rfl, rfl⟩
  · have hd : max x y = y := by omega
    rw [hd]; clear hd
    go_enter Tryd.func105, Tryd.ntmps105
    go_wp2
    go_ret
    exact ⟨rfl, rfl⟩

set_option maxRecDepth 10000 in
set_option maxHeartbeats 400000 in
theorem spec_l3Abs (x : Int) (w : World) (h0 : -1000000 ≤ x) (h1 : x ≤ 1000000) : Calls Tryd.prog 93 #[.int .i64 x] w fun e w' => e = .returned (.int .i64 x.natAbs) ∧ w' = w := by
  have hc := spec_l1Max x (-x) w
  rw [show max x (-x) = (x.natAbs : Int) from by omega] at hc
  have Hc := Lib.hid hc
  clear hc
  go_enter Tryd.func93, Tryd.ntmps93
  go_wp2_with fail
  refine Hc.out.mono ?_
  rintro e w1 ⟨rfl, rfl⟩
  go_wp2
  go_ret
  exact ⟨rfl, rfl⟩

set_option maxRecDepth 10000 in
set_option maxHeartbeats 400000 in
theorem impl_edgeOf (x : Int) (w : World) (h0 : -1000000 ≤ x) (h1 : x ≤ 1000000) : Calls Tryd.prog 75 #[.int .i64 x] w fun e w' => e = .returned (.int .i64 x.natAbs) ∧ w' = w := by
  generalize hd : (x.natAbs : Int) = y
  have Hd := Lib.hid hd; clear hd
  by_cases hx : x < -x
  · go_enter Tryd.func75, Tryd.ntmps75
    go_wp2
    go_ret
    exact ⟨by rw [← Hd.out, show (x.natAbs : Int) = -x from by omega]; rfl, rfl⟩
  · go_enter Tryd.func75, Tryd.ntmps75
    go_wp2
    go_ret
    exact ⟨by rw [← Hd.out, show (x.natAbs : Int) = x from by omega]; rfl, rfl⟩

theorem nine_made : madeCells (Value.int .i64 0).cells 9 = (intCells (Glue.count [])).toArray := by
  show madeCells #[Value.int .i64 0] 9 = _
  rw [made_one]; rfl
theorem nine_make (w : World) : (Instr.makeSlice 36 (.int .i64 9) (.int .i64 9)).run Tryd.prog w = .ok (.slice (some ⟨w.heap.size, 0, none⟩) 9 9) (w.alloc (.cells (intCells (Glue.count [])).toArray 3)) := by
  obtain ⟨i0, hi, hz0, hz1, hz2⟩ := info_parts info_int
  have h := run_make_rowN (P := Tryd.prog) 36 3 i0 _ Tryd.underlying36 hi hz0 .i64 .i64 9 9 (Nat.le_refl _) (by rw [hz2]; omega) (by omega) w
  rw [hz1, Nat.mul_one, nine_made] at h
  exact h
theorem count_cells (s : List Int) (x : Int) : (intCells s).toArray.setIfInBounds x.natAbs (.int .i64 (s.getD x.natAbs 0 + 1)) = (intCells (Glue.put s x)).toArray := by
  unfold Glue.put
  simp [intCells, List.map_set]
theorem ints_cell {w : World} {g : Nat} {t : TypeId} {s : List Int} {j : Nat} (h : Blk w g t (intCells s).toArray) (hj : j < s.length) : w.cell? ⟨g, j, none⟩ = some (.int .i64 (s.getD j 0)) := by
  rw [h.cell j]; simp [intCells, List.getD_eq_getElem?_getD, hj]

set_option maxRecDepth 10000 in
set_option maxHeartbeats 1000000 in
theorem spec_l3Uses (a : Option Addr) (c : Nat) (L : List (List Int)) (w : World) (ha : GridAt w a L) (hw : ∀ p ∈ L, Word.IsW p) (hl : sumLen L ≤ 1000) (hn : L.length ≤ 1000) :
    Calls Tryd.prog 64 #[.slice a L.length c] w fun e w' => ∃ g, e = .returned (.slice (some ⟨g, 0, none⟩) 9 9) ∧ w.heap.size ≤ g ∧ Blk w' g 3 (intCells (Glue.uses L)).toArray ∧ Below w.heap.size w w' := by
  have hmk := nine_make w
  generalize hN : w.heap.size = N at *
  have HN := Lib.hid hN
  have Ha := Lib.hid ha; have Hw := Lib.hid hw; have HL := Lib.hid hl
  clear ha hw hl
  go_enter Tryd.func64, Tryd.ntmps64
  go_wp2
  go_loopw [4, 5] (fun iv _ wr => ∃ i : Nat, i ≤ L.length ∧ iv = .int .i64 i ∧ Below N w wr ∧ Hid (Blk wr N 3 (intCells (Glue.count (Glue.upTo L i 0))).toArray)) (fun iv _ _ => L.length - (intOf iv).toNat)
  case atStart => exact ⟨0, by omega, rfl, by have h := (Below.refl w.heap.size w).alloc (Nat.le_refl _) (.cells (intCells (Glue.count [])).toArray 3); rw [HN.out] at h; exact h, Lib.hid (by have h := Blk.new w 3 (intCells (Glue.count [])).toArray; rw [HN.out] at h; exact h)⟩
  case round =>
    obtain ⟨i, hi, rfl, hb, hk⟩ := hrel
    by_cases hlt : i < L.length
    · obtain ⟨r, hr⟩ := get_some hlt
      have Hr := Lib.hid hr
      have hwi := Hw.out r (get_mem hr)
      have hll : r.length ≤ 24 := hwi.2
      have Hwi := Lib.hid hwi
      clear hr hwi
      go_wp2
      go_loopw [5] (fun jv w2 => ∃ j : Nat, j ≤ r.length ∧ jv = .int .i64 j ∧ Below N w w2 ∧ Hid (Blk w2 N 3 (intCells (Glue.count (Glue.upTo L i j))).toArray)) (fun jv _ => r.length - (intOf jv).toNat)
      case atStart => exact ⟨0, by omega, rfl, hb, hk⟩
      case round =>
        clear hb hk
        obtain ⟨j, hj, rfl, hb, hk⟩ := hrel
        obtain ⟨b, o, ai, ci, rfl, hbw, hcell, hrow⟩ := (Ha.out.below (by rw [HN.out]; exact hb)).get Hr.out
        by_cases hjt : j < r.length
        · obtain ⟨x, hx⟩ := get_some hjt
          obtain ⟨b', o', rfl, hbw', hcell'⟩ := intCells_get? hrow hx
          have hstep := Glue.upTo_step Hr.out hx
          have hbd := Glue.upTo_len j Hr.out
          obtain ⟨hx0, hx1, hx2⟩ := Hwi.out.1 x (get_mem hx)
          have hput := count_cells (Glue.count (Glue.upTo L i j)) x
          rw [← Glue.count_snoc, ← hstep] at hput
          have hle := HL.out
          rw [sumLen_flat] at hle
          obtain ⟨hc0, hc1⟩ := Glue.count_bound (Glue.upTo L i j) x.natAbs (by omega)
          have hcx := ints_cell hk.out (j := x.natAbs) (by rw [Glue.count_len]; omega)
          have hfz := hk.out.frozen x.natAbs
          generalize (Glue.count (Glue.upTo L i j)).getD x.natAbs 0 = s at *
          have hxa : x.natAbs < 9 := by omega
          have habs := fun W => spec_l3Abs x W (by omega) (by omega)
          generalize x.natAbs = xa at *
          have hxb : (xa : Int) < 9 := by omega
          have hxc : (0 : Int) ≤ (xa : Int) := by omega
          have Hput := Lib.hid hput; have Habs := Lib.hid habs
          clear hput hstep hrow habs hx0 hx1 hx2 hx
          go_wp2
          go_still_tail 22, (by kernel_rfl)
          still_call (Habs.out _)
          repeat still_step
          still_call (Habs.out _)
          repeat still_step
          refine wpStill_nil ?_
          change wpList _ _ _ _ _ wr.drew
          go_wp2
          go_roundw
          case rel =>
            refine ⟨j + 1, by omega, by go_num, Below.setCell (below_drewN hb 1) (Nat.le_refl _) _, Lib.hid ?_⟩
            have h := (hk.out.drewN 1).put xa (.int .i64 (s + 1))
            rw [Hput.out] at h
            exact h
          case measure => simp [intOf]; omega
        · obtain rfl : j = r.length := by omega
          rw [Glue.upTo_next Hr.out] at hk
          go_wp2
          go_roundw
          case rel => exact ⟨i + 1, by omega, by go_num, hb, hk⟩
          case measure => simp [intOf]; omega
    · obtain rfl : i = L.length := by omega
      rw [Glue.upTo_all] at hk
      go_wp2
      go_ret
      exact ⟨N, rfl, Nat.le_refl _, hk.out, hb⟩
end Go.Proofs.YtpgdmbolckogcaaDoor
namespace Go.Proofs.YtpgdmbolckogcaaDoor
open Go.RowKit

set_option maxRecDepth 10000 in
set_option maxHeartbeats 1000000 in
theorem impl_countLetters (a : Option Addr) (c : Nat) (L : List (List Int)) (w : World) (ha : GridAt w a L) (hw : ∀ p ∈ L, Word.IsW p) (hl : sumLen L ≤ 1000) (hn : L.length ≤ 1000) :
    Calls Tryd.prog 61 #[.slice a L.length c] w fun e w' => e = .returned (.agg (intCells (Glue.uses L)).toArray) ∧ Below w.heap.size w w' := by
  generalize hN : w.heap.size = N at *
  have HN := Lib.hid hN
  have Ha := Lib.hid ha; have Hw := Lib.hid hw; have HL := Lib.hid hl
  clear ha hw hl
  go_enter Tryd.func61, Tryd.ntmps61
  go_wp2
  go_loopw [5, 7, 10] (fun _ _ iv wr => ∃ i : Nat, i ≤ L.length ∧ iv = .int .i64 i ∧ Below N w wr ∧ Hid (Blk wr N 54 (intCells (Glue.count [])).toArray ∧ Blk wr (N + 1) 54 (intCells (Glue.count (Glue.upTo L i 0))).toArray)) (fun _ _ iv _ => L.length - (intOf iv).toNat)
  case atStart =>
    refine ⟨0, by omega, rfl, ?_, Lib.hid ⟨?_, ?_⟩⟩
    · have h := ((Below.refl w.heap.size w).alloc (Nat.le_refl _) (.cells (intCells (Glue.count [])).toArray 54)).alloc (by simp) (.cells (intCells (Glue.count [])).toArray 54)
      rw [HN.out] at h; exact h
    · have h := (Blk.new w 54 (intCells (Glue.count [])).toArray).alloc (.cells (intCells (Glue.count [])).toArray 54)
      rw [HN.out] at h; exact h
    · have h := Blk.new (w.alloc (.cells (intCells (Glue.count [])).toArray 54)) 54 (intCells (Glue.count [])).toArray
      have e : (w.alloc (.cells (intCells (Glue.count [])).toArray 54)).heap.size = N + 1 := by rw [← HN.out]; simp
      rw [e] at h; exact h
  case round =>
    obtain ⟨i, hi, rfl, hb, hk⟩ := hrel
    by_cases hlt : i < L.length
    · obtain ⟨r, hr⟩ := get_some hlt
      have Hr := Lib.hid hr
      have hwi := Hw.out r (get_mem hr)
      have hll : r.length ≤ 24 := hwi.2
      have Hwi := Lib.hid hwi
      clear hr hwi
      obtain ⟨b, o, ai, ci, rfl, hbw, hcell0, hrow⟩ := Ha.out.get Hr.out
      have hcell : wr.cell? ⟨b, o + i, none⟩ = some (.slice ai r.length ci) := by rw [hb.cell (by rw [← HN.out]; exact hbw)]; exact hcell0
      have Hrow := Lib.hid hrow
      clear hcell0 hbw
      have Hb := Lib.hid hb
      clear hrow hb
      go_wp2
      go_loopw [7, 16] (fun _ jv w2 => ∃ j : Nat, j ≤ r.length ∧ jv = .int .i64 j ∧ Hid (Below N w w2) ∧ Hid (Blk w2 N 54 (intCells (Glue.count [])).toArray ∧ Blk w2 (N + 1) 54 (intCells (Glue.count (Glue.upTo L i j))).toArray)) (fun _ jv _ => r.length - (intOf jv).toNat)
      case atStart => exact ⟨0, by omega, rfl, Hb, hk⟩
      case round =>
        clear hk
        obtain ⟨j, hj, rfl, hb, hk⟩ := hrel
        by_cases hjt : j < r.length
        · obtain ⟨x, hx⟩ := get_some hjt
          obtain ⟨b', o', rfl, hbw', hcell'⟩ := intCells_get? (Hrow.out.below (by rw [HN.out]; exact hb.out)) hx
          have hstep := Glue.upTo_step Hr.out hx
          have hbd := Glue.upTo_len j Hr.out
          obtain ⟨hx0, hx1, hx2⟩ := Hwi.out.1 x (get_mem hx)
          have hput := count_cells (Glue.count (Glue.upTo L i j)) x
          rw [← Glue.count_snoc, ← hstep] at hput
          have hle := HL.out
          rw [sumLen_flat] at hle
          obtain ⟨hc0, hc1⟩ := Glue.count_bound (Glue.upTo L i j) x.natAbs (by omega)
          have hcx := ints_cell hk.out.2 (j := x.natAbs) (by rw [Glue.count_len]; omega)
          have hfz := hk.out.2.frozen x.natAbs
          generalize (Glue.count (Glue.upTo L i j)).getD x.natAbs 0 = s at *
          have hxa : x.natAbs < 9 := by omega
          have habs := fun W => impl_edgeOf x W (by omega) (by omega)
          generalize x.natAbs = xa at *
          have hxb : (xa : Int) < 9 := by omega
          have hxc : (0 : Int) ≤ (xa : Int) := by omega
          have Hput := Lib.hid hput; have Habs := Lib.hid habs
          clear hput hstep habs hx0 hx1 hx2 hx
          go_wp2_with fail
          refine (Habs.out _).mono ?_
          rintro e w1 ⟨rfl, rfl⟩
          go_wp2
          go_roundw
          case rel =>
            refine ⟨j + 1, by omega, by go_num, Lib.hid (hb.out.setCell (show N ≤ N + 1 by omega) _), Lib.hid ⟨hk.out.1.far (by show N ≠ N + 1; omega) _, ?_⟩⟩
            · have h := hk.out.2.put xa (.int .i64 (s + 1))
              rw [Hput.out] at h
              exact h
          case measure => simp [intOf]; omega
        · obtain rfl : j = r.length := by omega
          rw [Glue.upTo_next Hr.out] at hk
          go_wp2
          go_roundw
          case rel => exact ⟨i + 1, by omega, by go_num, hb.out, hk⟩
          case measure => simp [intOf]; omega
    · obtain rfl : i = L.length := by omega
      rw [Glue.upTo_all] at hk
      have hk1 : wr.heap[N]? = some (.cells (intCells (Glue.count [])).toArray 54 (0, 0)) := hk.out.1
      have hk2 : wr.heap[N + 1]? = some (.cells (intCells (Glue.uses L)).toArray 54 (0, 0)) := hk.out.2
      have hsz : (Tryd.prog.info? 54).map (·.size) = some (intCells (Glue.uses L)).toArray.size := by
        have h : (Tryd.prog.info? 54).map (·.size) = some 9 := by kernel_rfl
        rw [h]; simp [intCells_len, Glue.uses_len]
      have hold : (intCells (Glue.count [])).toArray.size = (intCells (Glue.uses L)).toArray.size := by simp [intCells_len, Glue.uses_len, Glue.count_len]
      have hall : (intCells (Glue.uses L)).toArray.all (·.oneCell') = true := by simp [intCells, Value.oneCell']
      generalize hY : (intCells (Glue.uses L)).toArray = Y at *
      have HY := Lib.hid hY
      clear hY
      have Hk1 := Lib.hid hk1; have Hk2 := Lib.hid hk2; have Hsz := Lib.hid hsz; have Hall := Lib.hid hall; have Hold := Lib.hid hold; have Hb := Lib.hid hb
      clear hk1 hk2 hsz hall hk hb hold
      go_upto_region 11 with fail
      apply wp_region_lit
      refine wpList_load_row rfl 54 (.tmp 3) rfl (N + 1) rfl 54 Y (0, 0) _ Hk2.out Tryd.underlying54 rfl Hsz.out ?_
      refine wpList_store_row rfl 54 (.tmp 2) (.tmp 28) rfl N Y rfl rfl 54 _ Hk1.out Hsz.out Hold.out Hall.out ?_
      apply wpList_nil
      have hb3 : Below N w (wr.setRow N Y) := ⟨Hb.out.os, Hb.out.tape, Hb.out.output, by rw [size_setRow]; exact Hb.out.size, fun k hk => (setRow_other wr N k Y (by omega)).trans (Hb.out.block k hk)⟩
      have hk3 : (wr.setRow N Y).heap[N]? = some (.cells Y 54 (0, 0)) := setRow_heap wr N _ Y 54 (0, 0) Hk1.out
      generalize wr.setRow N Y = w3 at *
      have Hb3 := Lib.hid hb3; have Hk3 := Lib.hid hk3
      clear hb3 hk3
      go_wp2
      exact bodyPost_ret (results_cell_row rfl _ _ N 54 Y (0, 0) _ rfl Hk3.out Tryd.underlying54 rfl Hsz.out) rfl ⟨by rw [HY.out], Hb3.out⟩
end Go.Proofs.YtpgdmbolckogcaaDoor
namespace Go.Proofs.YtpgdmbolckogcaaDoor
open Go.RowKit

theorem arr_index (l : List Int) (hl : l.length = 9) (k : Nat) (hk : k < 9) (w : World) :
    (Instr.index 54 (.agg (intCells l).toArray) (.int .i64 k)).run Tryd.prog w = .ok (.int .i64 (l.getD k 0)) w := by
  match l, hl with
  | [x0, x1, x2, x3, x4, x5, x6, x7, x8], _ =>
    match k, hk with
    | 0, _ => show _ = _; kernel_rfl
    | 1, _ => show _ = _; kernel_rfl
    | 2, _ => show _ = _; kernel_rfl
    | 3, _ => show _ = _; kernel_rfl
    | 4, _ => show _ = _; kernel_rfl
    | 5, _ => show _ = _; kernel_rfl
    | 6, _ => show _ = _; kernel_rfl
    | 7, _ => show _ = _; kernel_rfl
    | 8, _ => show _ = _; kernel_rfl

namespace Glue
theorem isG_uses {L : List (List Int)} (h1 : 1 ≤ L.length) (h2 : L.length ≤ 4) (h3 : ∀ p ∈ L, RowOk p) (h4 : sumLen L ≤ 20) : decide (IsG L) = decide (∀ n ∈ uses L, n ≤ 2) :=
  decide_eq_decide.2 ⟨fun h => h.2.2.2.2, fun h => ⟨h1, h2, h3, h4, h⟩⟩
theorem bad_use {L : List (List Int)} {k : Nat} (hk : k < 9) (h : ¬ (uses L).getD k 0 ≤ 2) : decide (IsG L) = false :=
  decide_eq_false fun hg => h (by
    have hk' : k < (uses L).length := by rw [uses_len]; exact hk
    rw [← uses_at k hk']; exact hg.2.2.2.2 _ (List.getElem_mem hk'))
theorem good_uses {L : List (List Int)} (h1 : 1 ≤ L.length) (h2 : L.length ≤ 4) (h3 : ∀ p ∈ L, RowOk p) (h4 : sumLen L ≤ 20) (h : ∀ k, k < 9 → (uses L).getD k 0 ≤ 2) : decide (IsG L) = true :=
  decide_eq_true ⟨h1, h2, h3, h4, all_small fun k hk h9 => by rw [uses_at k hk]; exact h k h9⟩
theorem not_len {L : List (List Int)} (h : ¬ (1 ≤ L.length ∧ L.length ≤ 4)) : decide (IsG L) = false := decide_eq_false fun hg => h ⟨hg.1, hg.2.1⟩
theorem not_sum {L : List (List Int)} (h : ¬ sumLen L ≤ 20) : decide (IsG L) = false := decide_eq_false fun hg => h hg.2.2.2.1
theorem sum_small {L : List (List Int)} {i : Nat} (h : ∀ j (hj : j < L.length), j < i → RowOk L[j]) : sumLen (L.take i) ≤ 24 * i := by
  induction i with
  | zero => simp [sumLen]
  | succ i ih =>
    have h1 := ih (fun j hj hji => h j hj (by omega))
    by_cases hlt : i < L.length
    · rw [sumLen_take hlt]
      have := (h i hlt (by omega)).2.2
      omega
    · rw [List.take_of_length_le (by omega)] at h1 ⊢
      omega
end Glue

set_option maxRecDepth 10000 in
set_option maxHeartbeats 1000000 in
theorem spec_IsGluing_big (a : Option Addr) (c : Nat) (L : List (List Int)) (w : World) (ha : GridAt w a L) (hln : L.length ≤ 2000000) (hsm : sumLen L ≤ 60000000) (hrw : ∀ r ∈ L, r.length ≤ 1048576) :
    Calls Tryd.prog 22 #[.slice a L.length c] w fun e w' => e = .returned (.bool (decide (Glue.IsG L))) ∧ Below w.heap.size w w' := by
  generalize hv : decide (Glue.IsG L) = v
  have Hv := Lib.hid hv
  have Ha := Lib.hid ha
  have HL := Lib.hid hsm; have Hrw := Lib.hid hrw
  clear hv ha hsm hrw
  go_enter Tryd.func22, Tryd.ntmps22
  go_wp2
  go_loopw [2, 3, 4] (fun rv sv iv wr => rv = .bool false ∧ ∃ i : Nat, i ≤ L.length ∧ iv = .int .i64 i ∧ sv = .int .i64 (sumLen (L.take i) : Nat) ∧ Hid (∀ j (hj : j < L.length), j < i → Glue.RowOk L[j]) ∧ Below w.heap.size w wr) (fun _ _ iv _ => L.length - (intOf iv).toNat)
  case atStart => exact ⟨rfl, 0, by omega, rfl, by simp [sumLen], Lib.hid (fun _ _ h => by omega), Below.refl _ _⟩
  case round =>
    obtain ⟨rfl, i, hi, rfl, rfl, hall, hb⟩ := hrel
    by_cases hlt : i < L.length
    · obtain ⟨r, hr⟩ := get_some hlt
      have hri : L[i] = r := by rw [List.getElem?_eq_getElem hlt] at hr; exact Option.some.inj hr
      obtain ⟨b, o, ai, ci, rfl, hbw, hcell, hrow⟩ := (Ha.out.below hb).get hr
      have hst := sumLen_take hlt
      have hle := len_le_sumLen hlt
      have hle2 := sumLen_le L (i + 1)
      have htl := HL.out
      have hr1 := Hrw.out r (get_mem hr)
      rw [hri] at hst hle
      have hbad := Glue.not_row hlt
      rw [hri] at hbad
      have hnext : Glue.RowOk r → ∀ j (hj : j < L.length), j < i + 1 → Glue.RowOk L[j] := fun h j hj h' => by
        rcases Nat.lt_or_ge j i with h2 | h2
        · exact hall.out j hj h2
        · obtain rfl : j = i := by omega
          rw [hri]; exact h
      have hcW := spec_IsWord ai ci r wr hrow hr1
      generalize sumLen (L.take i) = S at *
      generalize hS' : sumLen (L.take (i + 1)) = S' at *
      have hbd : S + r.length ≤ 60000000 := by omega
      have Hst := Lib.hid hst; have HS' := Lib.hid hS'; have Hbad := Lib.hid hbad; have Hnext := Lib.hid hnext; have Hri := Lib.hid hri
      clear hst hS' hbad hnext hri hr hrow
      by_cases h0 : r.length = 0
      · have hv : v = false := by rw [← Hv.out]; exact Hbad.out (fun h => h.1 (List.eq_nil_of_length_eq_zero h0))
        have Hf := Lib.hid hv; clear hv
        have h0' : ((r.length : Int) == 0) = true := by rw [h0]; rfl
        go_wp2
        go_ret
        exact ⟨by rw [Hf.out]; rfl, hb⟩
      · by_cases hW : Word.IsW r
        · rw [decide_eq_true hW] at hcW
          have Hcw := Lib.hid hcW; have HW := Lib.hid hW
          clear hcW hW
          go_wp2_with fail
          refine Hcw.out.mono ?_
          rintro e w1 ⟨rfl, hb1⟩
          have hcell1 : w1.cell? ⟨b, o + i, none⟩ = some (.slice ai r.length ci) := by rw [hb1.cell hbw]; exact hcell
          have Hb := Lib.hid hb; have Hb1 := Lib.hid hb1
          clear hb hb1 hcell
          go_wp2
          go_roundw
          case rel =>
            refine ⟨rfl, i + 1, by omega, by go_num, by rw [HS'.out, Hst.out]; congr 1, Lib.hid (Hnext.out ⟨fun e => h0 (by rw [e]; rfl), HW.out⟩), Hb.out.trans (Hb1.out.mono Hb.out.size)⟩
          case measure => simp [intOf]; omega
        · have hv : v = false := by rw [← Hv.out]; exact Hbad.out (fun h => hW h.2)
          have Hf := Lib.hid hv; clear hv
          rw [decide_eq_false hW] at hcW
          have Hcw := Lib.hid hcW; have HW := Lib.hid hW
          clear hcW hW
          go_wp2_with fail
          refine Hcw.out.mono ?_
          rintro e w1 ⟨rfl, hb1⟩
          have Hb := Lib.hid hb; have Hb1 := Lib.hid hb1
          clear hb hb1
          go_wp2
          go_ret
          exact ⟨by rw [Hf.out]; rfl, Hb.out.trans (Hb1.out.mono Hb.out.size)⟩
    · obtain rfl : i = L.length := by omega
      rw [sumLen_all]
      have hrows := Glue.rows_of hall.out
      have hsum := Glue.sum_small hall.out
      rw [sumLen_all] at hsum
      have Hrows := Lib.hid hrows
      have hin := spec_l1In (L.length : Nat) 1 4 wr
      clear hrows hall
      by_cases hlen : 1 ≤ L.length ∧ L.length ≤ 4
      · rw [decide_eq_true (by omega)] at hin
        have Hin := Lib.hid hin; clear hin
        by_cases hs : sumLen L ≤ 20
        · have hU := fun W (h : GridAt W a L) => spec_l3Uses a c L W h (fun p hp => (Hrows.out p hp).2) (by omega) (by omega)
          have HU := Lib.hid hU
          have hgood := Glue.good_uses hlen.1 hlen.2 Hrows.out hs
          have hbadu := fun k (hk : k < 9) => Glue.bad_use (L := L) hk
          have hulen := Glue.uses_len L
          generalize hS : sumLen L = S at *
          have Hgood := Lib.hid hgood; have Hbadu := Lib.hid hbadu; have Hlen := Lib.hid hlen
          clear hU hgood hbadu hS hsum hlen
          go_wp2_with fail
          refine Hin.out.mono ?_
          rintro e w1 ⟨rfl, rfl⟩
          go_wp2_with fail
          refine (HU.out w1 (Ha.out.below hb)).mono ?_
          rintro e w2 ⟨g, rfl, hg, hk, hb2⟩
          have Hk := Lib.hid hk; have Hb0 := Lib.hid hb; have Hb2 := Lib.hid hb2
          have hbw : Below w.heap.size w w2 := hb.trans (hb2.mono hb.size)
          generalize Glue.uses L = U at *
          have Hul := Lib.hid hulen
          clear hk hb hb2 hulen
          go_wp2
          go_loopw [2, 6] (fun rv kv wr => rv = .bool false ∧ ∃ k : Nat, k ≤ 9 ∧ kv = .int .i64 k ∧ wr = w2 ∧ Hid (∀ j, j < k → U.getD j 0 ≤ 2)) (fun _ kv _ => 9 - (intOf kv).toNat)
          case atStart => exact ⟨rfl, 0, by omega, rfl, rfl, Lib.hid (fun _ h => by omega)⟩
          case round =>
            obtain ⟨rfl, k, hk9, rfl, rfl, hall⟩ := hrel
            by_cases hkt : k < 9
            · have hcu := ints_cell Hk.out (j := k) (by rw [Hul.out]; exact hkt)
              have hbu := Hbadu.out k hkt
              generalize hx : U.getD k 0 = x at *
              have Hx := Lib.hid hx; have Hbu := Lib.hid hbu
              clear hx hbu
              have hkc : (k : Int) < 9 := by omega
              by_cases h2 : x ≤ 2
              · go_wp2
                go_roundw
                case rel => exact ⟨rfl, k + 1, by omega, by go_num, trivial, Lib.hid (fun j hj => by
                  rcases Nat.lt_or_ge j k with h' | h'
                  · exact hall.out j h'
                  · obtain rfl : j = k := by omega
                    rw [Hx.out]; exact h2)⟩
                case measure => simp [intOf]; omega
              · have hv : v = false := by rw [← Hv.out]; exact Hbu.out (by omega)
                have Hf := Lib.hid hv; clear hv
                go_wp2
                go_ret
                exact ⟨by rw [Hf.out]; rfl, hbw⟩
            · obtain rfl : k = 9 := by omega
              have hv : v = true := by rw [← Hv.out]; exact Hgood.out hall.out
              have Hf := Lib.hid hv; clear hv
              go_wp2
              go_ret
              exact ⟨by rw [Hf.out]; rfl, hbw⟩
        · have hv : v = false := by rw [← Hv.out]; exact Glue.not_sum hs
          have Hf := Lib.hid hv; clear hv
          generalize hS : sumLen L = S at *
          have hsb : S ≤ 1000000 := by omega
          clear hS hsum
          go_wp2_with fail
          refine Hin.out.mono ?_
          rintro e w1 ⟨rfl, rfl⟩
          go_wp2
          go_ret
          exact ⟨by rw [Hf.out]; rfl, hb⟩
      · have hv : v = false := by rw [← Hv.out]; exact Glue.not_len hlen
        have Hf := Lib.hid hv
        rw [decide_eq_false (by omega)] at hin
        have Hin := Lib.hid hin
        clear hin hv
        go_wp2_with fail
        refine Hin.out.mono ?_
        rintro e w1 ⟨rfl, rfl⟩
        go_wp2
        go_ret
        exact ⟨by rw [Hf.out]; rfl, hb⟩

set_option maxRecDepth 10000 in
set_option maxHeartbeats 1000000 in
theorem impl_IsGluing_big (a : Option Addr) (c : Nat) (L : List (List Int)) (w : World) (ha : GridAt w a L) (hln : L.length ≤ 2000000) (hsm : sumLen L ≤ 60000000) (hrw : ∀ r ∈ L, r.length ≤ 1048576) :
    Calls Tryd.prog 21 #[.slice a L.length c] w fun e w' => e = .returned (.bool (decide (Glue.IsG L))) ∧ Below w.heap.size w w' := by
  generalize hv : decide (Glue.IsG L) = v
  have Hv := Lib.hid hv
  have Ha := Lib.hid ha
  have HL := Lib.hid hsm; have Hrw := Lib.hid hrw
  clear hv ha hsm hrw
  by_cases hz : L.length = 0
  · have hv : v = false := by rw [← Hv.out]; exact Glue.not_len (by omega)
    have Hf := Lib.hid hv; clear hv
    have hz' : ((L.length : Int) == 0) = true := by rw [hz]; rfl
    go_enter Tryd.func21, Tryd.ntmps21
    go_wp2
    go_ret
    exact ⟨by rw [Hf.out]; rfl, Below.refl _ _⟩
  by_cases h4 : 4 < L.length
  · have hv : v = false := by rw [← Hv.out]; exact Glue.not_len (by omega)
    have Hf := Lib.hid hv; clear hv
    go_enter Tryd.func21, Tryd.ntmps21
    go_wp2
    go_ret
    exact ⟨by rw [Hf.out]; rfl, Below.refl _ _⟩
  have hz' : ((L.length : Int) == 0) = false := beq_eq_false_iff_ne.2 (by omega)
  have h4' : ¬ ((4 : Int) < (L.length : Int)) := by omega
  go_enter Tryd.func21, Tryd.ntmps21
  go_wp2
  clear hz'
  go_loopw [2, 3, 5, 18] (fun rv sv _ iv wr => rv = .bool false ∧ ∃ i : Nat, i ≤ L.length ∧ iv = .int .i64 i ∧ sv = .int .i64 (sumLen (L.take i) : Nat) ∧ Hid (∀ j (hj : j < L.length), j < i → Glue.RowOk L[j]) ∧ Below w.heap.size w wr) (fun _ _ _ iv _ => L.length - (intOf iv).toNat)
  case atStart => exact ⟨rfl, 0, by omega, rfl, by simp [sumLen], Lib.hid (fun _ _ h => by omega), Below.refl _ _⟩
  case round =>
    obtain ⟨rfl, i, hi, rfl, rfl, hall, hb⟩ := hrel
    by_cases hlt : i < L.length
    · obtain ⟨r, hr⟩ := get_some hlt
      have hri : L[i] = r := by rw [List.getElem?_eq_getElem hlt] at hr; exact Option.some.inj hr
      obtain ⟨b, o, ai, ci, rfl, hbw, hcell, hrow⟩ := (Ha.out.below hb).get hr
      have hst := sumLen_take hlt
      have hle := len_le_sumLen hlt
      have hle2 := sumLen_le L (i + 1)
      have htl := HL.out
      have hr1 := Hrw.out r (get_mem hr)
      rw [hri] at hst hle
      have hbad := Glue.not_row hlt
      rw [hri] at hbad
      have hnext : Glue.RowOk r → ∀ j (hj : j < L.length), j < i + 1 → Glue.RowOk L[j] := fun h j hj h' => by
        rcases Nat.lt_or_ge j i with h2 | h2
        · exact hall.out j hj h2
        · obtain rfl : j = i := by omega
          rw [hri]; exact h
      have hcW := impl_IsWord ai ci r wr hrow hr1
      generalize sumLen (L.take i) = S at *
      generalize hS' : sumLen (L.take (i + 1)) = S' at *
      have hbd : S + r.length ≤ 60000000 := by omega
      have Hst := Lib.hid hst; have HS' := Lib.hid hS'; have Hbad := Lib.hid hbad; have Hnext := Lib.hid hnext; have Hri := Lib.hid hri
      clear hst hS' hbad hnext hri hr hrow
      by_cases h0 : r.length = 0
      · have hv : v = false := by rw [← Hv.out]; exact Hbad.out (fun h => h.1 (List.eq_nil_of_length_eq_zero h0))
        have Hf := Lib.hid hv; clear hv
        have h0' : ((r.length : Int) == 0) = true := by rw [h0]; rfl
        go_wp2
        go_ret
        exact ⟨by rw [Hf.out]; rfl, hb⟩
      · by_cases hW : Word.IsW r
        · rw [decide_eq_true hW] at hcW
          have Hcw := Lib.hid hcW; have HW := Lib.hid hW
          clear hcW hW
          go_wp2_with fail
          refine Hcw.out.mono ?_
          rintro e w1 ⟨rfl, hb1⟩
          have Hb := Lib.hid hb; have Hb1 := Lib.hid hb1
          clear hb hb1 hcell
          go_wp2
          go_roundw
          case rel =>
            refine ⟨rfl, i + 1, by omega, by go_num, by rw [HS'.out, Hst.out]; congr 1, Lib.hid (Hnext.out ⟨fun e => h0 (by rw [e]; rfl), HW.out⟩), Hb.out.trans (Hb1.out.mono Hb.out.size)⟩
          case measure => simp [intOf]; omega
        · have hv : v = false := by rw [← Hv.out]; exact Hbad.out (fun h => hW h.2)
          have Hf := Lib.hid hv; clear hv
          rw [decide_eq_false hW] at hcW
          have Hcw := Lib.hid hcW; have HW := Lib.hid hW
          clear hcW hW
          go_wp2_with fail
          refine Hcw.out.mono ?_
          rintro e w1 ⟨rfl, hb1⟩
          have Hb := Lib.hid hb; have Hb1 := Lib.hid hb1
          clear hb hb1
          go_wp2
          go_ret
          exact ⟨by rw [Hf.out]; rfl, Hb.out.trans (Hb1.out.mono Hb.out.size)⟩
    · obtain rfl : i = L.length := by omega
      rw [sumLen_all]
      have hrows := Glue.rows_of hall.out
      have hsum := Glue.sum_small hall.out
      rw [sumLen_all] at hsum
      have Hrows := Lib.hid hrows
      clear hrows hall
      by_cases hs : sumLen L ≤ 20
      · have hU := fun W (h : GridAt W a L) => impl_countLetters a c L W h (fun p hp => (Hrows.out p hp).2) (by omega) (by omega)
        have HU := Lib.hid hU
        have hgood := Glue.good_uses (L := L) (by omega) (by omega) Hrows.out hs
        have hbadu := fun k (hk : k < 9) => Glue.bad_use (L := L) hk
        have hix := fun k (hk : k < 9) W => arr_index (Glue.uses L) (Glue.uses_len L) k hk W
        generalize hS : sumLen L = S at *
        have Hgood := Lib.hid hgood; have Hbadu := Lib.hid hbadu; have Hix := Lib.hid hix
        clear hU hgood hbadu hS hsum hix
        go_wp2_with fail
        refine (HU.out wr (Ha.out.below hb)).mono ?_
        rintro e w2 ⟨rfl, hb2⟩
        have Hb2 := Lib.hid hb2
        have hbw : Below w.heap.size w w2 := hb.trans (hb2.mono hb.size)
        generalize Glue.uses L = U at *
        clear hb hb2
        go_wp2
        go_loopw [2, 7, 39] (fun rv _ kv wr => rv = .bool false ∧ ∃ k : Nat, k ≤ 9 ∧ kv = .int .i64 k ∧ wr = w2 ∧ Hid (∀ j, j < k → U.getD j 0 ≤ 2)) (fun _ _ kv _ => 9 - (intOf kv).toNat)
        case atStart => exact ⟨rfl, 0, by omega, rfl, rfl, Lib.hid (fun _ h => by omega)⟩
        case round =>
          obtain ⟨rfl, k, hk9, rfl, rfl, hall⟩ := hrel
          by_cases hkt : k < 9
          · have hix := Hix.out k hkt wr
            have hbu := Hbadu.out k hkt
            generalize hx : U.getD k 0 = x at *
            have Hx := Lib.hid hx; have Hbu := Lib.hid hbu
            clear hx hbu
            have hkc : (k : Int) < 9 := by omega
            by_cases h2 : x ≤ 2
            · go_wp2
              go_roundw
              case rel => exact ⟨rfl, k + 1, by omega, by go_num, trivial, Lib.hid (fun j hj => by
                rcases Nat.lt_or_ge j k with h' | h'
                · exact hall.out j h'
                · obtain rfl : j = k := by omega
                  rw [Hx.out]; exact h2)⟩
              case measure => simp [intOf]; omega
            · have hv : v = false := by rw [← Hv.out]; exact Hbu.out (by omega)
              have Hf := Lib.hid hv; clear hv
              go_wp2
              go_ret
              exact ⟨by rw [Hf.out]; rfl, hbw⟩
          · obtain rfl : k = 9 := by omega
            have hv : v = true := by rw [← Hv.out]; exact Hgood.out hall.out
            have Hf := Lib.hid hv; clear hv
            go_wp2
            go_ret
            exact ⟨by rw [Hf.out]; rfl, hbw⟩
      · have hv : v = false := by rw [← Hv.out]; exact Glue.not_sum hs
        have Hf := Lib.hid hv; clear hv
        generalize hS : sumLen L = S at *
        have hsb : S ≤ 1000000 := by omega
        clear hS hsum
        go_wp2
        go_ret
        exact ⟨by rw [Hf.out]; rfl, hb⟩
theorem tot_parts {L : List (List Int)} (hl : tot L ≤ 1048576) : L.length ≤ 2000000 ∧ sumLen L ≤ 60000000 ∧ ∀ r ∈ L, r.length ≤ 1048576 := by
  unfold tot at hl
  refine ⟨by omega, by omega, fun r hr => ?_⟩
  obtain ⟨i, hi, rfl⟩ := List.mem_iff_getElem.1 hr
  have := len_le_sumLen hi
  omega
theorem spec_IsGluing (a : Option Addr) (c : Nat) (L : List (List Int)) (w : World) (ha : GridAt w a L) (hl : tot L ≤ 1048576) :
    Calls Tryd.prog 22 #[.slice a L.length c] w fun e w' => e = .returned (.bool (decide (Glue.IsG L))) ∧ Below w.heap.size w w' :=
  spec_IsGluing_big a c L w ha (tot_parts hl).1 (tot_parts hl).2.1 (tot_parts hl).2.2
theorem impl_IsGluing (a : Option Addr) (c : Nat) (L : List (List Int)) (w : World) (ha : GridAt w a L) (hl : tot L ≤ 1048576) :
    Calls Tryd.prog 21 #[.slice a L.length c] w fun e w' => e = .returned (.bool (decide (Glue.IsG L))) ∧ Below w.heap.size w w' :=
  impl_IsGluing_big a c L w ha (tot_parts hl).1 (tot_parts hl).2.1 (tot_parts hl).2.2
end Go.Proofs.YtpgdmbolckogcaaDoor
namespace Go.Proofs.YtpgdmbolckogcaaDoor
open Go.RowKit

/-- What two loops in one another have met, up to the element j of the row i. -/
def met {β : Type} (f : List Int → Nat → β) (L : List (List Int)) (i j : Nat) : List β := ((L.take i).flatMap fun r => (List.range r.length).map (f r)) ++ (List.range j).map (f (L.getD i []))
def metAll {β : Type} (f : List Int → Nat → β) (L : List (List Int)) : List β := L.flatMap fun r => (List.range r.length).map (f r)
section
variable {β : Type} {f : List Int → Nat → β} {L : List (List Int)} {i : Nat} {r : List Int}
theorem met_zero : met f L 0 0 = [] := by simp [met]
theorem met_step (j : Nat) (hi : L[i]? = some r) : met f L i (j + 1) = met f L i j ++ [f r j] := by
  unfold met
  rw [List.getD_eq_getElem?_getD, hi, Option.getD_some, List.range_succ, List.map_append, List.append_assoc]; rfl
theorem met_next (hi : L[i]? = some r) : met f L i r.length = met f L (i + 1) 0 := by
  obtain ⟨h1, rfl⟩ := List.getElem?_eq_some_iff.1 hi
  unfold met
  rw [List.getD_eq_getElem?_getD, List.getElem?_eq_getElem h1, Option.getD_some, List.take_succ_eq_append_getElem h1, List.flatMap_append]
  simp
theorem met_end : met f L L.length 0 = metAll f L := by simp [met, metAll]
theorem met_mem {x : β} (h : x ∈ metAll f L) : ∃ r ∈ L, ∃ j, j < r.length ∧ x = f r j := by
  unfold metAll at h
  rw [List.mem_flatMap] at h
  obtain ⟨r, hr, h⟩ := h
  rw [List.mem_map] at h
  obtain ⟨j, hj, rfl⟩ := h
  exact ⟨r, hr, j, List.mem_range.1 hj, rfl⟩
end

namespace Cls
/-- The classes of a and b become one. -/
def merge (c : Nat → Nat) (p : Nat × Nat) : Nat → Nat := fun k => if c k = c p.1 then c p.2 else c k
def mergeAll (l : List (Nat × Nat)) : Nat → Nat := l.foldl merge id
theorem mergeAll_snoc (l : List (Nat × Nat)) (p : Nat × Nat) : mergeAll (l ++ [p]) = merge (mergeAll l) p := by simp [mergeAll]
/-- The labels as a list. -/
def row (c : Nat → Nat) (n : Nat) : List Int := (List.range n).map fun k => ((c k : Nat) : Int)
theorem row_len (c : Nat → Nat) (n : Nat) : (row c n).length = n := by simp [row]
theorem row_get {c : Nat → Nat} {n k : Nat} (h : k < n) : (row c n)[k]? = some ((c k : Nat) : Int) := by simp [row, h]
theorem row_getD {c : Nat → Nat} {n k : Nat} (h : k < n) : (row c n).getD k 0 = ((c k : Nat) : Int) := by rw [List.getD_eq_getElem?_getD, row_get h]; rfl

/-- Labels below n, each the label of itself. -/
structure Ok (c : Nat → Nat) (n : Nat) : Prop where
  lt : ∀ k, k < n → c k < n
  idem : ∀ k, k < n → c (c k) = c k
theorem Ok.start (n : Nat) : Ok id n := ⟨fun _ h => h, fun _ _ => rfl⟩
theorem Ok.merge {c : Nat → Nat} {n : Nat} (h : Ok c n) {p : Nat × Nat} (h1 : p.1 < n) (h2 : p.2 < n) : Ok (Cls.merge c p) n := by
  constructor
  · intro k hk
    unfold Cls.merge
    split
    · exact h.lt _ h2
    · exact h.lt _ hk
  · intro k hk
    unfold Cls.merge
    by_cases e : c k = c p.1
    · rw [if_pos e]
      by_cases e2 : c p.2 = c p.1
      · rw [h.idem _ h2, if_pos e2]
      · rw [h.idem _ h2, if_neg e2]
    · rw [if_neg e, h.idem _ hk, if_neg e]
theorem Ok.all {n : Nat} {l : List (Nat × Nat)} (h : ∀ p ∈ l, p.1 < n ∧ p.2 < n) : Ok (mergeAll l) n := by
  have key : ∀ (m : List (Nat × Nat)) (c : Nat → Nat), Ok c n → (∀ p ∈ m, p.1 < n ∧ p.2 < n) → Ok (m.foldl Cls.merge c) n := by
    intro m
    induction m with
    | nil => intro c h _; exact h
    | cons p m ih => intro c hc hm; exact ih _ (hc.merge (hm p (List.mem_cons_self ..)).1 (hm p (List.mem_cons_self ..)).2) (fun q hq => hm q (List.mem_cons_of_mem _ hq))
  exact key l id (Ok.start n) h
/-- A set that holds both ends of what is merged holds the labels of its members. -/
theorem closed {S : Nat → Prop} {l : List (Nat × Nat)} (h : ∀ p ∈ l, S p.1 ∧ S p.2) : ∀ k, S k → S (mergeAll l k) := by
  have key : ∀ (m : List (Nat × Nat)) (c : Nat → Nat), (∀ k, S k → S (c k)) → (∀ p ∈ m, S p.1 ∧ S p.2) → ∀ k, S k → S (m.foldl Cls.merge c k) := by
    intro m
    induction m with
    | nil => intro c h _; exact h
    | cons p m ih =>
      intro c hc hm
      refine ih _ (fun k hk => ?_) (fun q hq => hm q (List.mem_cons_of_mem _ hq))
      unfold Cls.merge
      split
      · exact hc _ (hm p (List.mem_cons_self ..)).2
      · exact hc _ hk
  exact key l id (fun _ h => h) h

/-- A forest u whose roots are the labels c; d falls along it. -/
structure Up (u c d : Nat → Nat) (n : Nat) : Prop where
  ok : Ok c n
  lt : ∀ k, k < n → u k < n
  same : ∀ k, k < n → c (u k) = c k
  root : ∀ k, k < n → (u k = k ↔ c k = k)
  falls : ∀ k, k < n → u k ≠ k → d (u k) < d k
theorem Up.start (n : Nat) : Up id id (fun _ => 0) n := ⟨Ok.start n, fun _ h => h, fun _ _ => rfl, fun _ _ => Iff.rfl, fun _ _ h => absurd rfl h⟩
/-- One root is hung below another. -/
theorem Up.link {u c d : Nat → Nat} {n : Nat} (h : Up u c d n) {p : Nat × Nat} (h1 : p.1 < n) (h2 : p.2 < n) :
    Up (fun k => if k = c p.1 then c p.2 else u k) (Cls.merge c p) (fun k => if c k = c p.1 then d k + d (c p.2) + 1 else d k) n := by
  have ia := h.ok.idem _ h1
  have ib := h.ok.idem _ h2
  refine ⟨h.ok.merge h1 h2, fun k hk => ?_, fun k hk => ?_, fun k hk => ?_, fun k hk hne => ?_⟩
  · show (if k = c p.1 then c p.2 else u k) < n
    split
    · exact h.ok.lt _ h2
    · exact h.lt _ hk
  · show Cls.merge c p (if k = c p.1 then c p.2 else u k) = Cls.merge c p k
    unfold Cls.merge
    by_cases e : k = c p.1
    · rw [if_pos e, e, ib, ia, if_pos rfl]
      split <;> rfl
    · rw [if_neg e, h.same k hk]
  · show (if k = c p.1 then c p.2 else u k) = k ↔ Cls.merge c p k = k
    unfold Cls.merge
    by_cases e : k = c p.1
    · rw [if_pos e, if_pos (by rw [e]; exact ia)]
    · rw [if_neg e]
      by_cases e2 : c k = c p.1
      · rw [if_pos e2]
        constructor
        · intro hu; have := (h.root k hk).1 hu; omega
        · intro hc
          rw [← hc, ib] at e2
          omega
      · rw [if_neg e2]; exact h.root k hk
  · show (if c (if k = c p.1 then c p.2 else u k) = c p.1 then d (if k = c p.1 then c p.2 else u k) + d (c p.2) + 1 else d (if k = c p.1 then c p.2 else u k)) < (if c k = c p.1 then d k + d (c p.2) + 1 else d k)
    have hne' : (if k = c p.1 then c p.2 else u k) ≠ k := hne
    by_cases e : k = c p.1
    · rw [if_pos e] at hne' ⊢
      rw [ib, if_neg (by omega), if_pos (by rw [e]; exact ia)]
      omega
    · rw [if_neg e] at hne' ⊢
      have hf := h.falls k hk hne'
      rw [h.same k hk]
      split
      · omega
      · exact hf
theorem row_link {u : Nat → Nat} {n a b : Nat} (ha : a < n) : (row u n).set a ((b : Nat) : Int) = row (fun k => if k = a then b else u k) n := by
  apply List.ext_getElem?
  intro k
  rw [List.getElem?_set]
  by_cases hk : k < n
  · by_cases e : a = k
    · subst e; rw [if_pos rfl, if_pos (by rw [row_len]; exact hk), row_get hk, if_pos rfl]
    · rw [if_neg e, row_get hk, row_get hk, if_neg (fun h => e h.symm)]
  · have h1 : (row u n)[k]? = none := List.getElem?_eq_none (by rw [row_len]; omega)
    have h2 : (row (fun k => if k = a then b else u k) n)[k]? = none := List.getElem?_eq_none (by rw [row_len]; omega)
    rw [h2]
    split
    · rw [if_neg (by rw [row_len]; omega)]
    · exact h1

/-- The labels that have been found. -/
def foundStep (c : Nat → Nat) (out : List Nat) (m : Nat) : List Nat := if c m ∈ out then out else out ++ [c m]
def found (c : Nat → Nat) (ms : List Nat) : List Nat := ms.foldl (foundStep c) []
theorem found_snoc (c : Nat → Nat) (ms : List Nat) (m : Nat) : found c (ms ++ [m]) = foundStep c (found c ms) m := by simp [found]
theorem found_mem (c : Nat → Nat) (ms : List Nat) (x : Nat) : x ∈ found c ms ↔ ∃ m ∈ ms, c m = x := by
  have key : ∀ (l out : List Nat), x ∈ l.foldl (foundStep c) out ↔ x ∈ out ∨ ∃ m ∈ l, c m = x := by
    intro l
    induction l with
    | nil => intro out; simp
    | cons m l ih =>
      intro out
      rw [List.foldl_cons, ih]
      unfold foundStep
      constructor
      · rintro (h | ⟨q, hq, rfl⟩)
        · split at h
          · exact Or.inl h
          · rcases List.mem_append.1 h with h | h
            · exact Or.inl h
            · simp only [List.mem_singleton] at h; subst h; exact Or.inr ⟨m, List.mem_cons_self .., rfl⟩
        · exact Or.inr ⟨q, List.mem_cons_of_mem _ hq, rfl⟩
      · rintro (h | ⟨q, hq, rfl⟩)
        · left; split
          · exact h
          · exact List.mem_append.2 (Or.inl h)
        · rcases List.mem_cons.1 hq with rfl | hq
          · left; split
            · assumption
            · exact List.mem_append.2 (Or.inr (List.mem_singleton.2 rfl))
          · exact Or.inr ⟨q, hq, rfl⟩
  rw [found, key]; simp
theorem found_nodup (c : Nat → Nat) (ms : List Nat) : (found c ms).Nodup := by
  have key : ∀ (l out : List Nat), out.Nodup → (l.foldl (foundStep c) out).Nodup := by
    intro l
    induction l with
    | nil => intro out h; exact h
    | cons m l ih =>
      intro out h
      rw [List.foldl_cons]
      refine ih _ ?_
      unfold foundStep
      split
      · exact h
      · rename_i hn
        rw [List.nodup_append]
        refine ⟨h, by simp, fun x hx y hy => ?_⟩
        simp only [List.mem_singleton] at hy
        subst hy
        rintro rfl
        exact hn hx
  exact key ms [] List.nodup_nil
theorem found_len (c : Nat → Nat) (ms : List Nat) : (found c ms).length ≤ ms.length := by
  have key : ∀ (l out : List Nat), (l.foldl (foundStep c) out).length ≤ out.length + l.length := by
    intro l
    induction l with
    | nil => intro out; simp
    | cons m l ih =>
      intro out
      rw [List.foldl_cons]
      have := ih (foundStep c out m)
      have h2 : (foundStep c out m).length ≤ out.length + 1 := by unfold foundStep; split <;> simp
      simp only [List.length_cons]; omega
  have := key ms []
  simpa [found] using this
/-- How many members are labels of themselves. -/
def tally (c : Nat → Nat) (ms : List Nat) : Nat := (ms.filter fun m => c m == m).length
theorem tally_snoc (c : Nat → Nat) (ms : List Nat) (m : Nat) : tally c (ms ++ [m]) = tally c ms + if c m = m then 1 else 0 := by
  unfold tally
  rw [List.filter_append, List.length_append]
  by_cases h : c m = m <;> simp [h]
theorem tally_le (c : Nat → Nat) (ms : List Nat) : tally c ms ≤ ms.length := List.length_filter_le _ _
theorem tally_found {c : Nat → Nat} {ms : List Nat} (hn : ms.Nodup) (hc : ∀ m ∈ ms, c m ∈ ms) (hi : ∀ m ∈ ms, c (c m) = c m) : tally c ms = (found c ms).length := by
  unfold tally
  refine List.Perm.length_eq ((List.perm_ext_iff_of_nodup (hn.filter _) (found_nodup c ms)).2 fun x => ?_)
  rw [found_mem, List.mem_filter]
  constructor
  · rintro ⟨h1, h2⟩
    exact ⟨x, h1, by simpa using h2⟩
  · rintro ⟨m, hm, rfl⟩
    exact ⟨hc m hm, by simpa using hi m hm⟩
end Cls
end Go.Proofs.YtpgdmbolckogcaaDoor
namespace Go.Proofs.YtpgdmbolckogcaaDoor
open Go.RowKit

set_option maxRecDepth 10000 in
set_option maxHeartbeats 1000000 in
theorem spec_l3Letters (a : Option Addr) (c : Nat) (L : List (List Int)) (lo hi : Int) (w : World) (ha : GridAt w a L) (hw : ∀ p ∈ L, Word.IsW p) (hs : sumLen L ≤ 1000) (hn : L.length ≤ 1000) (h1 : 1 ≤ lo) :
    Calls Tryd.prog 66 #[.slice a L.length c, .int .i64 lo, .int .i64 hi] w fun e w' => Gives w (Glue.letters L lo hi) e w' := by
  have hU := fun W (h : GridAt W a L) => spec_l3Uses a c L W h hw hs hn
  have hone := Glue.lettersTo_one hw (hi := hi) h1
  have hin := fun m => Glue.lettersTo_in (L := L) (lo := lo) (hi := hi) (m := m)
  have hout := fun m => Glue.lettersTo_out (L := L) (lo := lo) (hi := hi) (m := m)
  have hlen := Glue.lettersTo_len L lo hi
  have hulen := Glue.uses_len L
  obtain ⟨i0, hi0, hz0, hz1, hz2⟩ := info_int_parts
  have Hi0 := Lib.hid hi0; have Hz0 := Lib.hid hz0; have Hz1 := Lib.hid hz1; have Hz2 := Lib.hid hz2
  have HU := Lib.hid hU; have Hone := Lib.hid hone; have Ha := Lib.hid ha; have Hin := Lib.hid hin; have Hout := Lib.hid hout; have Hlen := Lib.hid hlen; have Hul := Lib.hid hulen
  clear hU hone hi0 hz0 hz1 hz2 ha hw hs hin hout hlen hulen
  generalize hN : w.heap.size = N at *
  have HN := Lib.hid hN
  unfold Glue.letters
  generalize hY : Glue.lettersTo L lo hi = Y at *
  generalize hUs : Glue.uses L = U at *
  clear hY hUs
  go_enter Tryd.func66, Tryd.ntmps66
  go_wp2_with fail
  have hb0 : Below N w (w.alloc (.cells #[] 3)) := by have h := (Below.refl w.heap.size w).alloc (Nat.le_refl _) (.cells #[] 3); rw [HN.out] at h; exact h
  refine (HU.out _ (Ha.out.below (by rw [HN.out]; exact hb0))).mono ?_
  rintro e w1 ⟨g, rfl, hg, hk, hb1⟩
  have hsz : (w.alloc (.cells #[] 3)).heap.size = N + 1 := by rw [← HN.out]; simp
  rw [hsz] at hg hb1
  have hown : w1.ownsRow N 3 1 (.slice (some ⟨N, 0, none⟩) 0 0) 0 (intCells []) := by
    have h := own_made HN.out
    rw [HN.out] at h
    exact own_keep h hb1 (fun k hk => by have := own_block hk; omega)
  have Hb01 := Lib.hid (hb0.trans (hb1.mono (Nat.le_succ N)))
  have Hk := Lib.hid hk; have Hown := Lib.hid hown; have Hg := Lib.hid hg
  clear hk hb0 hb1 hsz hown hg
  go_wp2
  go_loopw [7, 9] (fun ov kv wr => ∃ k : Nat, 1 ≤ k ∧ k ≤ 9 ∧ kv = .int .i64 k ∧ Below N w wr ∧ wr.ownsRow N 3 1 ov (Y k).length (intCells (Y k)) ∧ Hid (Blk wr g 3 (intCells U).toArray ∧ Off ov g)) (fun _ kv _ => 9 - (intOf kv).toNat)
  case atStart => exact ⟨1, by omega, by omega, rfl, Hb01.out, by rw [Hone.out]; exact Hown.out, Lib.hid ⟨Hk.out, fun k hk => by have := own_block hk; have := Hg.out; omega⟩⟩
  case round =>
    obtain ⟨k, hk1, hk9, rfl, hb, hown, hu⟩ := hrel
    by_cases hkt : k < 9
    · have hcell := ints_cell hu.out.1 (j := k) (by rw [Hul.out]; exact hkt)
      have hI := fun W => spec_l1In (U.getD k 0) lo hi W
      have hyes := Hin.out k
      have hno := Hout.out k
      have hlk := Hlen.out k
      generalize U.getD k 0 = x at *
      have hkc : (k : Int) < 9 := by omega
      have hNle : N ≤ wr.heap.size := by have := hb.size; rw [HN.out] at this; exact this
      have hgw := hu.out.1.lt
      by_cases hc : lo ≤ x ∧ x ≤ hi
      · have hI2 := hI; rw [decide_eq_true hc] at hI2
        have HI := Lib.hid hI2; have Hst := Lib.hid (hyes hc); have Hhc := Lib.hid hc
        clear hI hyes hno hI2 hc
        generalize hX : Y k = X at *
        generalize hX' : Y (k + 1) = X' at *
        have HX' := Lib.hid hX'
        clear hX hX'
        obtain ⟨av, cv, rfl⟩ := own_len hown
        have hc1 : X.length + 1 ≤ maxLen := by unfold maxLen; omega
        have hc2 : (X.length + 1) * 8 ≤ 140737488355328 := by omega
        have Hgw := Lib.hid hgw; clear hgw hlk
        go_wp2_with fail
        refine (HI.out _).mono ?_
        rintro e w2 ⟨rfl, rfl⟩
        go_wp2_with (at_builtin; refine append_one_new rfl (.tmp 26) (.tmp 28) 36 rfl N 3 i0 _ 8 Tryd.underlying36 Hi0.out Hz0.out Hz1.out Hz2.out (by rfl) _ _ _ rfl hown (by rfl) _ rfl hc1 hc2 hNle ?_; intro v1 w1 hown1 hg1 hblk)
        go_roundw
        case rel =>
          refine ⟨k + 1, by omega, by omega, by go_num, Below.grown (hb.alloc hNle _) hg1 (by simp; omega) (fun k hk => (hown.lt k hk).1), ?_, Lib.hid ⟨?_, ?_⟩⟩
          · rw [HX'.out, Hst.out, ← intCells_snoc, List.length_append]; exact hown1
          · exact (hu.out.1.alloc _).off hg1 hu.out.2
          · exact hu.out.2.next (by have := Hgw.out; simp; omega) hblk
        case measure => simp [intOf]; omega
      · have hI2 := hI; rw [decide_eq_false hc] at hI2
        have HI := Lib.hid hI2; have Hst := Lib.hid (hno hc); have Hhc := Lib.hid hc
        clear hI hyes hno hI2 hc hlk hgw
        go_wp2_with fail
        refine (HI.out _).mono ?_
        rintro e w2 ⟨rfl, rfl⟩
        go_wp2
        go_roundw
        case rel =>
          refine ⟨k + 1, by omega, by omega, by go_num, hb, ?_, hu⟩
          rw [Hst.out]; exact hown
        case measure => simp [intOf]; omega
    · obtain rfl : k = 9 := by omega
      have Hown := Lib.hid hown; clear hown
      go_wp2
      go_ret
      exact own_gives (by rw [HN.out]; exact Hown.out) rfl (by rw [HN.out]; exact hb)

set_option maxRecDepth 10000 in
set_option maxHeartbeats 1000000 in
theorem impl_lettersWithCount (a : Option Addr) (c : Nat) (L : List (List Int)) (lo hi : Int) (w : World) (ha : GridAt w a L) (hl : tot L ≤ 1048576) (h1 : 1 ≤ lo) :
    Calls Tryd.prog 65 #[.slice a L.length c, .int .i64 lo, .int .i64 hi] w fun e w' => Gives w (if Glue.IsG L then Glue.letters L lo hi else []) e w' := by
  have hG := fun W (h : GridAt W a L) => impl_IsGluing a c L W h hl
  generalize hv : (if Glue.IsG L then Glue.letters L lo hi else []) = V
  by_cases hg : Glue.IsG L
  · rw [if_pos hg] at hv
    rw [decide_eq_true hg] at hG
    have hU := fun W (h : GridAt W a L) => impl_countLetters a c L W h hg.w (Nat.le_trans hg.2.2.2.1 (by decide)) (Nat.le_trans hg.2.1 (by decide))
    have hin := fun m => Glue.lettersTo_in (L := L) (lo := lo) (hi := hi) (m := m)
    have hout := fun m => Glue.lettersTo_out (L := L) (lo := lo) (hi := hi) (m := m)
    have hlen := Glue.lettersTo_len L lo hi
    have hzero := Glue.lettersTo_zero L lo hi
    have hix := fun k (hk : k < 9) W => arr_index (Glue.uses L) (Glue.uses_len L) k hk W
    obtain ⟨i0, hi0, hz0, hz1, hz2⟩ := info_int_parts
    have Hi0 := Lib.hid hi0; have Hz0 := Lib.hid hz0; have Hz1 := Lib.hid hz1; have Hz2 := Lib.hid hz2
    have HG := Lib.hid hG; have HU := Lib.hid hU; have Ha := Lib.hid ha; have Hin := Lib.hid hin; have Hout := Lib.hid hout; have Hlen := Lib.hid hlen; have Hix := Lib.hid hix; have Hzero := Lib.hid hzero
    clear hG hU hi0 hz0 hz1 hz2 ha hin hout hlen hix hl hg hzero
    unfold Glue.letters at hv
    generalize hN : w.heap.size = N at *
    have HN := Lib.hid hN
    generalize hY : Glue.lettersTo L lo hi = Y at *
    generalize hUs : Glue.uses L = U at *
    have Hv := Lib.hid hv
    clear hY hUs hv
    go_enter Tryd.func65, Tryd.ntmps65
    go_wp2_with fail
    refine (HG.out w Ha.out).mono ?_
    rintro e w1 ⟨rfl, hb1⟩
    rw [HN.out] at hb1
    go_wp2_with fail
    refine (HU.out w1 (Ha.out.below (by rw [HN.out]; exact hb1))).mono ?_
    rintro e w2 ⟨rfl, hb2⟩
    have Hb := Lib.hid (hb1.trans (hb2.mono (by have := hb1.size; rw [HN.out] at this; exact this)))
    clear hb1 hb2
    go_wp2
    go_loopw [7, 8, 9, 15] (fun ov _ _ kv wr => ∃ k : Nat, k ≤ 9 ∧ kv = .int .i64 k ∧ Below N w wr ∧ wr.ownsRow N 3 1 ov (Y k).length (intCells (Y k))) (fun _ _ _ kv _ => 9 - (intOf kv).toNat)
    case atStart => exact ⟨0, by omega, rfl, Hb.out, by rw [Hzero.out]; exact World.ownsRow_nil _ _ _ _⟩
    case round =>
      obtain ⟨k, hk9, rfl, hb, hown⟩ := hrel
      by_cases hkt : k < 9
      · have hix := Hix.out k hkt
        have hyes := Hin.out k
        have hno := Hout.out k
        have hlk := Hlen.out k
        generalize U.getD k 0 = x at *
        have hkc : (k : Int) < 9 := by omega
        have hNle : N ≤ wr.heap.size := by have := hb.size; rw [HN.out] at this; exact this
        by_cases hc1 : lo ≤ x
        · by_cases hc2 : x ≤ hi
          · have Hst := Lib.hid (hyes ⟨hc1, hc2⟩)
            clear hyes hno
            generalize hX : Y k = X at *
            generalize hX' : Y (k + 1) = X' at *
            have HX' := Lib.hid hX'
            clear hX hX'
            obtain ⟨av, cv, rfl⟩ := own_len hown
            have hm1 : X.length + 1 ≤ maxLen := by unfold maxLen; omega
            have hm2 : (X.length + 1) * 8 ≤ 140737488355328 := by omega
            clear hlk
            go_wp2_with (at_builtin; refine append_one rfl (.tmp 27) (.tmp 29) 36 rfl N 3 i0 _ 8 Tryd.underlying36 Hi0.out Hz0.out Hz1.out Hz2.out (by rfl) _ _ _ rfl hown (by rfl) _ rfl hm1 hm2 hNle ?_; intro v1 w1 hown1 hg1 _)
            go_roundw
            case rel =>
              refine ⟨k + 1, by omega, by go_num, Below.grown (hb.alloc hNle _) hg1 (by simp; omega) (fun k hk => (hown.lt k hk).1), ?_⟩
              rw [HX'.out, Hst.out, ← intCells_snoc, List.length_append]; exact hown1
            case measure => simp [intOf]; omega
          · have Hst := Lib.hid (hno (fun h => hc2 h.2))
            clear hyes hno hlk
            go_wp2
            go_roundw
            case rel =>
              refine ⟨k + 1, by omega, by go_num, hb, ?_⟩
              rw [Hst.out]; exact hown
            case measure => simp [intOf]; omega
        · have Hst := Lib.hid (hno (fun h => hc1 h.1))
          clear hyes hno hlk
          go_wp2
          go_roundw
          case rel =>
            refine ⟨k + 1, by omega, by go_num, hb, ?_⟩
            rw [Hst.out]; exact hown
          case measure => simp [intOf]; omega
      · obtain rfl : k = 9 := by omega
        have Hown := Lib.hid hown; clear hown
        go_wp2
        go_ret
        rw [← Hv.out]
        exact own_gives (by rw [HN.out]; exact Hown.out) rfl (by rw [HN.out]; exact hb)
  · rw [if_neg hg] at hv
    rw [decide_eq_false hg] at hG
    have HG := Lib.hid hG; have Ha := Lib.hid ha; have Hv := Lib.hid hv
    clear hG ha hl hg hv
    go_enter Tryd.func65, Tryd.ntmps65
    go_wp2_with fail
    refine (HG.out w Ha.out).mono ?_
    rintro e w1 ⟨rfl, hb1⟩
    go_wp2
    go_ret
    rw [← Hv.out]
    exact Gives.none hb1

set_option maxRecDepth 10000 in
theorem impl_EdgeLetters (a : Option Addr) (c : Nat) (L : List (List Int)) (w : World) (ha : GridAt w a L) (hl : tot L ≤ 1048576) :
    Calls Tryd.prog 24 #[.slice a L.length c] w fun e w' => Gives w (Glue.edgeLetters L) e w' := by
  have h := impl_lettersWithCount a c L 1 2 w ha hl (by omega)
  rw [show (if Glue.IsG L then Glue.letters L 1 2 else []) = Glue.edgeLetters L from rfl] at h
  generalize Glue.edgeLetters L = Y at *
  have hc := Lib.hid h
  clear h
  go_enter Tryd.func24, Tryd.ntmps24
  go_wp2_with fail
  refine hc.out.mono ?_
  rintro e w1 ⟨ra, rc, rfl, h1, h2, h3, h4⟩
  have H3 := Lib.hid h3; clear h3
  go_wp2
  go_ret
  exact ⟨ra, rc, rfl, h1, h2, H3.out, h4⟩

set_option maxRecDepth 10000 in
theorem impl_FreeLetters (a : Option Addr) (c : Nat) (L : List (List Int)) (w : World) (ha : GridAt w a L) (hl : tot L ≤ 1048576) :
    Calls Tryd.prog 26 #[.slice a L.length c] w fun e w' => Gives w (Glue.freeLetters L) e w' := by
  have h := impl_lettersWithCount a c L 1 1 w ha hl (by omega)
  rw [show (if Glue.IsG L then Glue.letters L 1 1 else []) = Glue.freeLetters L from rfl] at h
  generalize Glue.freeLetters L = Y at *
  have hc := Lib.hid h
  clear h
  go_enter Tryd.func26, Tryd.ntmps26
  go_wp2_with fail
  refine hc.out.mono ?_
  rintro e w1 ⟨ra, rc, rfl, h1, h2, h3, h4⟩
  have H3 := Lib.hid h3; clear h3
  go_wp2
  go_ret
  exact ⟨ra, rc, rfl, h1, h2, H3.out, h4⟩

set_option maxRecDepth 10000 in
theorem spec_EdgeLetters (a : Option Addr) (c : Nat) (L : List (List Int)) (w : World) (ha : GridAt w a L) (hl : tot L ≤ 1048576) :
    Calls Tryd.prog 25 #[.slice a L.length c] w fun e w' => Gives w (Glue.edgeLetters L) e w' := by
  have hG := spec_IsGluing a c L w ha hl
  have Ha := Lib.hid ha
  unfold Glue.edgeLetters
  by_cases hg : Glue.IsG L
  · rw [decide_eq_true hg] at hG
    rw [if_pos hg]
    have HG := Lib.hid hG
    have hC := fun W (h : GridAt W a L) => spec_l3Letters a c L 1 2 W h hg.w (Nat.le_trans hg.2.2.2.1 (by decide)) (Nat.le_trans hg.2.1 (by decide)) (by omega)
    have HC := Lib.hid hC
    clear hG hC hg ha
    go_enter Tryd.func25, Tryd.ntmps25
    go_wp2_with fail
    refine HG.out.mono ?_
    rintro e w1 ⟨rfl, hb1⟩
    go_wp2_with fail
    refine (HC.out w1 (Ha.out.below hb1)).mono ?_
    rintro e w2 ⟨ra, rc, rfl, h1, h2, h3, h4⟩
    have H3 := Lib.hid h3; clear h3
    go_wp2
    go_ret
    exact ⟨ra, rc, rfl, h1, h2, H3.out.mono hb1.size, hb1.trans (h4.mono hb1.size)⟩
  · rw [decide_eq_false hg] at hG
    rw [if_neg hg]
    have HG := Lib.hid hG
    clear hG hg ha
    go_enter Tryd.func25, Tryd.ntmps25
    go_wp2_with fail
    refine HG.out.mono ?_
    rintro e w1 ⟨rfl, hb1⟩
    go_wp2
    go_ret
    exact own_gives (by exact own_mono (own_made (w := w1) rfl) hb1.size) rfl (hb1.alloc hb1.size _)

set_option maxRecDepth 10000 in
theorem spec_FreeLetters (a : Option Addr) (c : Nat) (L : List (List Int)) (w : World) (ha : GridAt w a L) (hl : tot L ≤ 1048576) :
    Calls Tryd.prog 27 #[.slice a L.length c] w fun e w' => Gives w (Glue.freeLetters L) e w' := by
  have hG := spec_IsGluing a c L w ha hl
  have Ha := Lib.hid ha
  unfold Glue.freeLetters
  by_cases hg : Glue.IsG L
  · rw [decide_eq_true hg] at hG
    rw [if_pos hg]
    have HG := Lib.hid hG
    have hC := fun W (h : GridAt W a L) => spec_l3Letters a c L 1 1 W h hg.w (Nat.le_trans hg.2.2.2.1 (by decide)) (Nat.le_trans hg.2.1 (by decide)) (by omega)
    have HC := Lib.hid hC
    clear hG hC hg ha
    go_enter Tryd.func27, Tryd.ntmps27
    go_wp2_with fail
    refine HG.out.mono ?_
    rintro e w1 ⟨rfl, hb1⟩
    go_wp2_with fail
    refine (HC.out w1 (Ha.out.below hb1)).mono ?_
    rintro e w2 ⟨ra, rc, rfl, h1, h2, h3, h4⟩
    have H3 := Lib.hid h3; clear h3
    go_wp2
    go_ret
    exact ⟨ra, rc, rfl, h1, h2, H3.out.mono hb1.size, hb1.trans (h4.mono hb1.size)⟩
  · rw [decide_eq_false hg] at hG
    rw [if_neg hg]
    have HG := Lib.hid hG
    clear hG hg ha
    go_enter Tryd.func27, Tryd.ntmps27
    go_wp2_with fail
    refine HG.out.mono ?_
    rintro e w1 ⟨rfl, hb1⟩
    go_wp2
    go_ret
    exact own_gives (by exact own_mono (own_made (w := w1) rfl) hb1.size) rfl (hb1.alloc hb1.size _)
end Go.Proofs.YtpgdmbolckogcaaDoor
namespace Go.Proofs.YtpgdmbolckogcaaDoor
open Go.RowKit

def intsOf (ms : List Nat) : List Int := ms.map fun k => ((k : Nat) : Int)
theorem intsOf_len (ms : List Nat) : (intsOf ms).length = ms.length := by simp [intsOf]
theorem intsOf_get {ms : List Nat} {i m : Nat} (h : ms[i]? = some m) : (intsOf ms)[i]? = some ((m : Nat) : Int) := by simp [intsOf, h]
theorem intsOf_snoc (ms : List Nat) (m : Nat) : intsOf (ms ++ [m]) = intsOf ms ++ [((m : Nat) : Int)] := by simp [intsOf]
theorem intsOf_mem {ms : List Nat} {m : Nat} : ((m : Nat) : Int) ∈ intsOf ms ↔ m ∈ ms := by
  unfold intsOf
  rw [List.mem_map]
  constructor
  · rintro ⟨k, hk, e⟩; obtain rfl : k = m := by omega
    exact hk
  · intro h; exact ⟨m, h, rfl⟩

/-- The block g holds the numbers u 0, u 1, .. below n, and maybe more behind them. -/
def Lab (w : World) (g : Nat) (u : Nat → Nat) (n : Nat) : Prop := ∃ all, Blk w g 3 all ∧ ∀ k, k < n → all[k]? = some (.int .i64 ((u k : Nat) : Int))
section
variable {w w' : World} {g n : Nat} {u : Nat → Nat}
theorem Lab.lt (h : Lab w g u n) : g < w.heap.size := by obtain ⟨_, h, _⟩ := h; exact h.lt
theorem Lab.cell (h : Lab w g u n) {k : Nat} (hk : k < n) : w.cell? ⟨g, k, none⟩ = some (.int .i64 ((u k : Nat) : Int)) := by
  obtain ⟨all, h, hc⟩ := h
  rw [h.cell]; exact hc k hk
theorem Lab.frozen (h : Lab w g u n) (k : Nat) : w.frozen? ⟨g, k, none⟩ = false := by obtain ⟨_, h, _⟩ := h; exact h.frozen k
theorem Lab.row (h : Lab w g u n) : RowAt w (some ⟨g, 0, none⟩) (intCells (Cls.row u n)) := by
  refine Or.inr ⟨g, 0, rfl, h.lt, fun i v hv => ?_⟩
  have hi : i < n := by
    have := (List.getElem?_eq_some_iff.1 hv).1
    rwa [intCells_len, Cls.row_len] at this
  rw [Nat.zero_add, h.cell hi]
  simp [intCells, Cls.row_get hi] at hv
  rw [← hv]
theorem Lab.put (h : Lab w g u n) {i b : Nat} (hi : i < n) : Lab (w.setCell ⟨g, i, none⟩ (.int .i64 ((b : Nat) : Int))) g (fun k => if k = i then b else u k) n := by
  obtain ⟨all, h, hc⟩ := h
  refine ⟨_, h.put i _, fun k hk => ?_⟩
  rw [Array.getElem?_setIfInBounds]
  by_cases e : i = k
  · subst e
    have := (Array.getElem?_eq_some_iff.1 (hc i hi)).1
    simp [this]
  · have e' : ¬ k = i := fun h => e h.symm
    simp only [e, e', if_false]; exact hc k hk
theorem Lab.congr (h : Lab w g u n) {v : Nat → Nat} (he : ∀ k, k < n → u k = v k) : Lab w g v n := by
  obtain ⟨all, h, hc⟩ := h
  exact ⟨all, h, fun k hk => by rw [hc k hk, he k hk]⟩
theorem Lab.below {B : Nat} (h : Lab w g u n) (hb : Below B w w') (hg : g < B) : Lab w' g u n := by
  obtain ⟨all, h, hc⟩ := h
  exact ⟨all, h.below hb hg, hc⟩
theorem Lab.drewN (h : Lab w g u n) (m : Nat) : Lab (w.drewN m) g u n := h
theorem Lab.of_blk (h : Blk w g 3 (intCells (Cls.row u n)).toArray) : Lab w g u n := ⟨_, h, fun k hk => by simp [intCells, Cls.row_get hk]⟩
end

set_option maxRecDepth 100000 in
theorem mk_zeros (n : Nat) (h1 : n ≤ 1000) (w : World) : (Instr.makeSlice 36 (.int .i64 (n : Int)) (.int .i64 (n : Int))).run Tryd.prog w = .ok (.slice (some ⟨w.heap.size, 0, none⟩) n n) (w.alloc (.cells (intCells (Cls.row (fun _ => 0) n)).toArray 3)) := by
  obtain ⟨i0, hi, hz0, hz1, hz2⟩ := info_parts info_int
  have h := run_make_rowN (P := Tryd.prog) 36 3 i0 _ Tryd.underlying36 hi hz0 .i64 .i64 n n (Nat.le_refl _) (by rw [hz2]; omega) (by omega) w
  have e : madeCells (Value.int .i64 0).cells (n * i0.size) = (intCells (Cls.row (fun _ => 0) n)).toArray := by
    rw [hz1, Nat.mul_one]
    show madeCells #[Value.int .i64 0] n = _
    rw [made_one]
    congr 1
    apply List.ext_getElem?
    intro k
    by_cases hk : k < n
    · simp [intCells, Cls.row, hk]
    · rw [List.getElem?_eq_none (by simp; omega), List.getElem?_eq_none (by rw [intCells_len, Cls.row_len]; omega)]
  rw [e] at h
  exact h

set_option maxRecDepth 10000 in
set_option maxHeartbeats 1000000 in
theorem impl_newClasses (n : Nat) (w : World) (h1 : n ≤ 1000) :
    Calls Tryd.prog 73 #[.int .i64 (n : Int)] w fun e w' => e = .returned (.slice (some ⟨w.heap.size, 0, none⟩) n n) ∧ Lab w' w.heap.size id n ∧ Below w.heap.size w w' := by
  have hmk := mk_zeros n h1
  have hst := Lab.of_blk (Blk.new w 3 (intCells (Cls.row (fun _ => 0) n)).toArray)
  generalize hN : w.heap.size = N at *
  have HN := Lib.hid hN
  have Hst := Lib.hid hst
  clear hst
  go_enter Tryd.func73, Tryd.ntmps73
  go_wp2
  go_loopw [4, 9] (fun _ iv wr => ∃ i : Nat, i ≤ n ∧ iv = .int .i64 i ∧ Below N w wr ∧ Hid (Lab wr N (fun k => if k < i then k else 0) n)) (fun _ iv _ => n - (intOf iv).toNat)
  case atStart => exact ⟨0, by omega, rfl, by have h := (Below.refl w.heap.size w).alloc (Nat.le_refl _) (.cells (intCells (Cls.row (fun _ => 0) n)).toArray 3); rw [HN.out] at h; exact h, Lib.hid (by simpa using Hst.out)⟩
  case round =>
    obtain ⟨i, hi, rfl, hb, hk⟩ := hrel
    by_cases hlt : i < n
    · have hcell := hk.out.cell hlt
      have hfz := hk.out.frozen i
      have hput := hk.out.put (b := i) hlt
      have Hput := Lib.hid hput
      clear hput
      generalize (((if i < i then i else 0 : Nat)) : Int) = z at hcell
      go_wp2
      go_roundw
      case rel => exact ⟨i + 1, by omega, by go_num, hb.setCell (Nat.le_refl _) _, Lib.hid (Hput.out.congr (fun k hk => by
        by_cases e : k = i
        · subst e; rw [if_pos rfl, if_pos (by omega)]
        · rw [if_neg e]
          by_cases e2 : k < i
          · rw [if_pos e2, if_pos (by omega)]
          · rw [if_neg e2, if_neg (by omega)]))⟩
      case measure => simp [intOf]; omega
    · obtain rfl : i = n := by omega
      go_wp2
      go_ret
      exact ⟨rfl, hk.out.congr (fun k hk => by rw [if_pos hk]; rfl), hb⟩

/-- Labels that are merged below i. -/
def mixTo (c : Nat → Nat) (p : Nat × Nat) (i : Nat) : Nat → Nat := fun k => if k < i then Cls.merge c p k else c k
theorem mixTo_at (c : Nat → Nat) (p : Nat × Nat) (i : Nat) : mixTo c p i i = c i := by simp [mixTo]
theorem mixTo_put {c : Nat → Nat} {p : Nat × Nat} {i : Nat} (h : c i = c p.1) (k : Nat) : (if k = i then c p.2 else mixTo c p i k) = mixTo c p (i + 1) k := by
  unfold mixTo
  by_cases e : k = i
  · subst e; rw [if_pos rfl, if_pos (by omega), Cls.merge, if_pos h]
  · rw [if_neg e]
    by_cases e2 : k < i
    · rw [if_pos e2, if_pos (by omega)]
    · rw [if_neg e2, if_neg (by omega)]
theorem mixTo_keep {c : Nat → Nat} {p : Nat × Nat} {i : Nat} (h : c i ≠ c p.1) (k : Nat) : mixTo c p i k = mixTo c p (i + 1) k := by
  unfold mixTo
  by_cases e : k = i
  · subst e; rw [if_neg (by omega), if_pos (by omega), Cls.merge, if_neg h]
  · by_cases e2 : k < i
    · rw [if_pos e2, if_pos (by omega)]
    · rw [if_neg e2, if_neg (by omega)]

set_option maxRecDepth 10000 in
set_option maxHeartbeats 1000000 in
theorem impl_mergeClasses (g n cap : Nat) (c : Nat → Nat) (a b : Nat) (za zb : Int) (hza : za = ((a : Nat) : Int)) (hzb : zb = ((b : Nat) : Int)) (w : World) (hg : Lab w g c n) (ha : a < n) (hb : b < n) (hn : n ≤ 1000) :
    Calls Tryd.prog 74 #[.slice (some ⟨g, 0, none⟩) n cap, .int .i64 za, .int .i64 zb] w fun e w' => e = .returned (.tuple #[]) ∧ Lab w' g (Cls.merge c (a, b)) n ∧ w.grownBy w' (some g) := by
  subst hza; subst hzb
  have hca := hg.cell ha
  have hcb := hg.cell hb
  have Hg := Lib.hid hg
  have h0a : (0 : Int) ≤ (a : Int) := by omega
  have h1a : (a : Int) < (n : Int) := by omega
  have h0b : (0 : Int) ≤ (b : Int) := by omega
  have h1b : (b : Int) < (n : Int) := by omega
  clear hg
  go_enter Tryd.func74, Tryd.ntmps74
  go_wp2
  go_quiet (fail)
  have Hg2 := Lib.hid (Hg.out.drewN nq)
  generalize hW : w.drewN nq = W0 at *
  have hgw : Hid (w.grownBy W0 (some g)) := Lib.hid (by rw [← hW]; exact ⟨rfl, rfl, rfl, Nat.le_refl _, fun _ _ _ => rfl⟩)
  clear hW hca hcb
  generalize hfrom : c a = fr at *
  have Hfrom := Lib.hid hfrom
  clear hfrom
  go_wp2
  go_loopw [8, 9, 20] (fun _ _ iv wr => ∃ i : Nat, i ≤ n ∧ iv = .int .i64 i ∧ Hid (Lab wr g (mixTo c (a, b) i) n ∧ w.grownBy wr (some g))) (fun _ _ iv _ => n - (intOf iv).toNat)
  case atStart => exact ⟨0, by omega, rfl, Lib.hid ⟨Hg2.out.congr (fun k _ => by simp [mixTo]), hgw.out⟩⟩
  case round =>
    obtain ⟨i, hi, rfl, hk⟩ := hrel
    by_cases hlt : i < n
    · have hcell := hk.out.1.cell hlt
      rw [mixTo_at] at hcell
      have hfz := hk.out.1.frozen i
      by_cases he : c i = fr
      · have heq : (((c i : Nat) : Int) == ((fr : Nat) : Int)) = true := by rw [he]; simp
        have Hi := Lib.hid (fun k => mixTo_put (p := (a, b)) (show c i = c (a, b).1 by rw [he]; exact Hfrom.out.symm) k)
        clear he
        generalize c i = ci at *
        have hput := hk.out.1.put (b := c b) hlt
        have Hput := Lib.hid hput
        clear hput
        go_wp2
        go_roundw
        case rel => exact ⟨i + 1, by omega, by go_num, Lib.hid ⟨Hput.out.congr (fun k _ => Hi.out k), only_setCell hk.out.2 (Or.inl rfl) _⟩⟩
        case measure => simp [intOf]; omega
      · have heq : (((c i : Nat) : Int) == ((fr : Nat) : Int)) = false := by simp; omega
        have Hi := Lib.hid (fun k => mixTo_keep (p := (a, b)) (show c i ≠ c (a, b).1 by intro h; exact he (h.trans Hfrom.out)) k)
        clear he
        generalize c i = ci at *
        go_wp2
        go_roundw
        case rel => exact ⟨i + 1, by omega, by go_num, Lib.hid ⟨hk.out.1.congr (fun k _ => Hi.out k), hk.out.2⟩⟩
        case measure => simp [intOf]; omega
    · obtain rfl : i = n := by omega
      go_wp2
      exact bodyPost_end (v := .tuple #[]) (by first | kernel_rfl | simp [results, Tryd.f74]) rfl ⟨rfl, hk.out.1.congr (fun k hk => by unfold mixTo; rw [if_pos hk]), hk.out.2⟩

set_option maxRecDepth 10000 in
set_option maxHeartbeats 1000000 in
theorem spec_l3Find (a : Option Addr) (cap n : Nat) (u c d : Nat → Nat) (k : Nat) (z : Int) (hz : z = ((k : Nat) : Int)) (w : World) (ha : RowAt w a (intCells (Cls.row u n))) (hu : Cls.Up u c d n) (hk : k < n) (hn : n ≤ 1000) :
    Calls Tryd.prog 77 #[.slice a n cap, .int .i64 z] w fun e w' => e = .returned (.int .i64 ((c k : Nat) : Int)) ∧ w' = w := by
  subst hz
  have Hu := Lib.hid hu
  have Ha := Lib.hid ha
  generalize hv : c k = v
  have Hv := Lib.hid hv
  clear hu ha hv
  go_enter Tryd.func77, Tryd.ntmps77
  go_wp2
  go_loopw [1] (fun kv wr => ∃ j : Nat, j < n ∧ kv = .int .i64 j ∧ Hid (c j = v) ∧ wr = w) (fun kv _ => d (intOf kv).toNat)
  case atStart => exact ⟨k, hk, rfl, Hv, rfl⟩
  case round =>
    obtain ⟨j, hj, rfl, hc, rfl⟩ := hrel
    obtain ⟨b, o, rfl, hbw, hcell⟩ := intCells_get? Ha.out (Cls.row_get hj)
    have hlt := Hu.out.lt j hj
    have hsame := Hu.out.same j hj
    have hroot := Hu.out.root j hj
    have hfall := Hu.out.falls j hj
    generalize hm : u j = m at *
    have Hsame := Lib.hid hsame; have Hroot := Lib.hid hroot; have Hfall := Lib.hid hfall
    have h0j : (0 : Int) ≤ (j : Int) := by omega
    have h1j : (j : Int) < (n : Int) := by omega
    clear hsame hroot hfall hm
    by_cases he : m = j
    · subst he
      go_wp2
      go_ret
      refine ⟨?_, rfl⟩
      rw [← hc.out, Hroot.out.1 (by first | rfl | trivial)]; rfl
    · have hne : ((m : Int) != (j : Int)) = true := by simp; omega
      go_wp2
      go_roundw
      case rel => exact ⟨m, hlt, by first | rfl | trivial, Lib.hid (by rw [Hsame.out]; exact hc.out), trivial⟩
      case measure => simpa [intOf] using Hfall.out he

set_option maxRecDepth 10000 in
set_option maxHeartbeats 1000000 in
theorem lib_Index (a : Option Addr) (cap : Nat) (l : List Int) (x : Int) (w : World) (ha : RowAt w a (intCells l)) (hl : l.length ≤ 1000000) :
    Calls Tryd.prog 106 #[.slice a l.length cap, .int .i64 x] w fun e w' => (∃ z : Int, e = .returned (.int .i64 z) ∧ decide (0 ≤ z) = decide (x ∈ l)) ∧ w' = w := by
  have Ha := Lib.hid ha; clear ha
  go_enter Tryd.func106, Tryd.ntmps106
  go_wp2
  go_loopw [5, 8] (fun _ iv wr => ∃ i : Nat, i ≤ l.length ∧ iv = .int .i64 i ∧ Hid (∀ j, j < i → l[j]? ≠ some x) ∧ wr = w) (fun _ iv _ => l.length - (intOf iv).toNat)
  case atStart => exact ⟨0, by omega, rfl, Lib.hid (fun _ h => by omega), rfl⟩
  case round =>
    obtain ⟨i, hi, rfl, hno, rfl⟩ := hrel
    by_cases hlt : i < l.length
    · obtain ⟨y, hy⟩ := get_some hlt
      obtain ⟨b, o, rfl, hbw, hcell⟩ := intCells_get? Ha.out hy
      have Hy := Lib.hid hy; clear hy
      by_cases he : x = y
      · have heq : (x == y) = true := by simp [he]
        have Hd := Lib.hid (show decide ((0 : Int) ≤ (i : Int)) = decide (x ∈ l) by rw [decide_eq_true (show (0 : Int) ≤ (i : Int) by omega), decide_eq_true (he ▸ get_mem Hy.out)])
        clear he
        go_wp2
        go_ret
        exact ⟨⟨_, rfl, Hd.out⟩, rfl⟩
      · have heq : (x == y) = false := by simp [he]
        have Hne := Lib.hid he
        clear he
        go_wp2
        go_roundw
        case rel => exact ⟨i + 1, by omega, by go_num, Lib.hid (fun j hj => by
          rcases Nat.lt_or_ge j i with h | h
          · exact hno.out j h
          · obtain rfl : j = i := by omega
            rw [Hy.out]; intro e; exact Hne.out (Option.some.inj e).symm), trivial⟩
        case measure => simp [intOf]; omega
    · obtain rfl : i = l.length := by omega
      go_wp2
      go_ret
      refine ⟨⟨_, rfl, ?_⟩, rfl⟩
      rw [decide_eq_false (by omega), decide_eq_false]
      intro h
      obtain ⟨j, hj, e⟩ := List.mem_iff_getElem.1 h
      exact hno.out j hj (by rw [List.getElem?_eq_getElem hj, e])

set_option maxRecDepth 10000 in
set_option maxHeartbeats 1000000 in
theorem lib_Contains (a : Option Addr) (cap : Nat) (l : List Int) (x : Int) (w : World) (ha : RowAt w a (intCells l)) (hl : l.length ≤ 1000000) :
    Calls Tryd.prog 94 #[.slice a l.length cap, .int .i64 x] w fun e w' => e = .returned (.bool (decide (x ∈ l))) ∧ w' = w := by
  have hc := Lib.hid (lib_Index a cap l x w ha hl)
  generalize decide (x ∈ l) = v at *
  go_enter Tryd.func94, Tryd.ntmps94
  go_wp2_with fail
  refine hc.out.mono ?_
  rintro e w1 ⟨⟨z, rfl, hz⟩, rfl⟩
  have Hz := Lib.hid hz; clear hz
  go_wp2
  go_ret
  exact ⟨by rw [← Hz.out]; rfl, rfl⟩

set_option maxRecDepth 10000 in
set_option maxHeartbeats 1000000 in
theorem impl_countClasses (ac am : Option Addr) (cc cm n : Nat) (c : Nat → Nat) (ms : List Nat) (w : World) (hc : RowAt w ac (intCells (Cls.row c n))) (hm : RowAt w am (intCells (intsOf ms))) (hin : ∀ m ∈ ms, m < n) (hl : ms.length ≤ 1000) (hn : n ≤ 1000) :
    Calls Tryd.prog 69 #[.slice ac n cc, .slice am ms.length cm] w fun e w' => e = .returned (.int .i64 (((Cls.found c ms).length : Nat) : Int)) ∧ Below w.heap.size w w' := by
  obtain ⟨i0, hi0, hz0, hz1, hz2⟩ := info_int_parts
  have Hi0 := Lib.hid hi0; have Hz0 := Lib.hid hz0; have Hz1 := Lib.hid hz1; have Hz2 := Lib.hid hz2
  have Hc := Lib.hid hc; have Hm := Lib.hid hm; have Hin := Lib.hid hin
  clear hi0 hz0 hz1 hz2 hc hm hin
  generalize hV : (((Cls.found c ms).length : Nat) : Int) = V
  have HV := Lib.hid hV; clear hV
  generalize hN : w.heap.size = N at *
  have HN := Lib.hid hN
  go_enter Tryd.func69, Tryd.ntmps69
  go_wp2
  go_loopw [5, 7, 10] (fun ov _ iv wr => ∃ i : Nat, i ≤ ms.length ∧ iv = .int .i64 i ∧ Below N w wr ∧ wr.ownsRow N 3 1 ov (Cls.found c (ms.take i)).length (intCells (intsOf (Cls.found c (ms.take i))))) (fun _ _ iv _ => ms.length - (intOf iv).toNat)
  case atStart => exact ⟨0, by omega, rfl, by have := Below.refl w.heap.size w; rw [HN.out] at this; exact this, World.ownsRow_nil _ _ _ _⟩
  case round =>
    obtain ⟨i, hi, rfl, hb, hown⟩ := hrel
    by_cases hlt : i < ms.length
    · obtain ⟨m, hm⟩ := get_some hlt
      have hmn := Hin.out m (get_mem hm)
      obtain ⟨b, o, rfl, hbw, hcell⟩ := intCells_get? (Hm.out.below (by rw [HN.out]; exact hb)) (intsOf_get hm)
      obtain ⟨b', o', rfl, hbw', hcell'⟩ := intCells_get? (Hc.out.below (by rw [HN.out]; exact hb)) (Cls.row_get hmn)
      have hsnoc : Cls.found c (ms.take (i + 1)) = Cls.foundStep c (Cls.found c (ms.take i)) m := by
        obtain ⟨h1, e⟩ := List.getElem?_eq_some_iff.1 hm
        rw [List.take_succ_eq_append_getElem h1, Cls.found_snoc, e]
      have hlen := Cls.found_len c (ms.take i)
      rw [List.length_take] at hlen
      unfold Cls.foundStep at hsnoc
      generalize c m = cm' at *
      generalize hX : Cls.found c (ms.take i) = X at *
      generalize hY : Cls.found c (ms.take (i + 1)) = Y at *
      have HY := Lib.hid hY
      have hXl : X.length ≤ 1000 := by omega
      obtain ⟨av, cv, rfl, hrow⟩ := own_row hown (by rw [intCells_len, intsOf_len])
      have hct := fun W (h : RowAt W av (intCells (intsOf X))) => lib_Contains av cv (intsOf X) ((cm' : Nat) : Int) W h (by rw [intsOf_len]; omega)
      rw [intsOf_len] at hct
      have hNle : N ≤ wr.heap.size := by have := hb.size; rw [HN.out] at this; exact this
      have h0m : (0 : Int) ≤ (m : Int) := by omega
      have h1m : (m : Int) < (n : Int) := by omega
      have Hrow := Lib.hid hrow
      clear hX hY hrow hm hlen
      by_cases hmem : cm' ∈ X
      · rw [if_pos hmem] at hsnoc
        rw [decide_eq_true (intsOf_mem.2 hmem)] at hct
        have Hct := Lib.hid hct; have Hst := Lib.hid hsnoc
        clear hct hsnoc hmem
        go_wp2_with fail
        refine (Hct.out _ Hrow.out).mono ?_
        rintro e w1 ⟨rfl, rfl⟩
        go_wp2
        go_roundw
        case rel =>
          refine ⟨i + 1, by omega, by go_num, hb, ?_⟩
          rw [HY.out, Hst.out]; exact hown
        case measure => simp [intOf]; omega
      · rw [if_neg hmem] at hsnoc
        rw [decide_eq_false (fun h => hmem (intsOf_mem.1 h))] at hct
        have Hct := Lib.hid hct; have Hst := Lib.hid hsnoc
        clear hct hsnoc hmem
        have hc1 : X.length + 1 ≤ maxLen := by unfold maxLen; omega
        have hc2 : (X.length + 1) * 8 ≤ 140737488355328 := by omega
        go_wp2_with fail
        refine (Hct.out _ Hrow.out).mono ?_
        rintro e w1 ⟨rfl, rfl⟩
        go_wp2_with (at_builtin; refine append_one rfl (.tmp 21) (.tmp 26) 36 rfl N 3 i0 _ 8 Tryd.underlying36 Hi0.out Hz0.out Hz1.out Hz2.out (by rfl) _ _ _ rfl hown (by rfl) _ rfl hc1 hc2 hNle ?_; intro v1 w1 hown1 hg1 _)
        go_roundw
        case rel =>
          refine ⟨i + 1, by omega, by go_num, Below.grown (hb.alloc hNle _) hg1 (by simp; omega) (fun k hk => (hown.lt k hk).1), ?_⟩
          rw [HY.out, Hst.out, intsOf_snoc, ← intCells_snoc, List.length_append]; exact hown1
        case measure => simp [intOf]; omega
    · obtain rfl : i = ms.length := by omega
      rw [List.take_of_length_le (Nat.le_refl _)] at hown
      obtain ⟨av, cv, rfl⟩ := own_len hown
      have Hown := Lib.hid hown; clear hown
      go_wp2
      go_ret
      exact ⟨by rw [← HV.out]; rfl, hb⟩
end Go.Proofs.YtpgdmbolckogcaaDoor
