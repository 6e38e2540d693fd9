/-
  Rows of integers of a call's own, each in a block of its own: one of them grows, the others stay.
-/
import Derived.Test.YtodgongemoabiaaBase
import Derived.Test.YtodgongemoabiaaSlice
import Derived.Test.YtodgongemoabiaaIntRow
import Derived.Test.YtodgongemoabiaaInts
import Derived.Test.YtodgongemoabiaaOwn
import Derived.Test.YtodgongemoabiaaAppend
import Derived.Test.YtodgongemoabiaaGrid
import Derived.Test.YtodgongemoabiaaGridWalk
import Derived.Test.YtodgongemoabiaaGridRows
namespace Go.Proofs.Ytodgongemoabiaa
open Go.RowKit

/-- Two rows lie in blocks of their own. -/
def Aprt (h h' : Hd) : Prop := ∀ b, h.val.ownBlock = some b → h'.val.ownBlock ≠ some b
theorem Aprt.symm {h h' : Hd} (a : Aprt h h') : Aprt h' h := fun b hb hb' => a b hb' hb
def Rws (w : World) (N : Nat) (hs : List Hd) : Prop := (∀ h ∈ hs, w.ownsRow N 3 1 h.val h.l.length (intCells h.l)) ∧ hs.Pairwise Aprt
def Hd.none : Hd := ⟨.none, 0, []⟩
theorem Hd.none_apart (h : Hd) : Aprt Hd.none h := fun b hb => by cases hb
section
variable {w w' : World} {N : Nat} {hs hs' : List Hd} {h : Hd}
theorem Rws.nil : Rws w N [] := ⟨fun _ h => (by cases h), List.Pairwise.nil⟩
theorem Rws.none (hr : Rws w N hs) : Rws w N (Hd.none :: hs) :=
  ⟨fun x hx => by
    rcases List.mem_cons.1 hx with rfl | hx
    · exact World.ownsRow_nil _ _ _ _
    · exact hr.1 x hx, List.pairwise_cons.2 ⟨fun x _ => Hd.none_apart x, hr.2⟩⟩
theorem Rws.perm (hr : Rws w N hs) (hp : hs.Perm hs') : Rws w N hs' :=
  ⟨fun x hx => hr.1 x (hp.mem_iff.2 hx), (hp.pairwise_iff (fun h => h.symm)).1 hr.2⟩
theorem Rws.tail (hr : Rws w N (h :: hs)) : Rws w N hs := ⟨fun x hx => hr.1 x (List.mem_cons_of_mem _ hx), (List.pairwise_cons.1 hr.2).2⟩
theorem Rws.head (hr : Rws w N (h :: hs)) : w.ownsRow N 3 1 h.val h.l.length (intCells h.l) := hr.1 h (List.mem_cons_self ..)
theorem Rws.swap {x y : Hd} (hr : Rws w N (x :: y :: hs)) : Rws w N (y :: x :: hs) := hr.perm (List.Perm.swap y x hs)
theorem Rws.below (hr : Rws w N hs) (hb : Below w.heap.size w w') : Rws w' N hs := ⟨fun x hx => own_keep (hr.1 x hx) hb (fun k hk => ((hr.1 x hx).lt k hk).2), hr.2⟩
theorem Rws.alloc (hr : Rws w N hs) (o : Obj) : Rws (w.alloc o) N hs := ⟨fun x hx => (hr.1 x hx).alloc o, hr.2⟩
/-- What has another type is none of the rows. -/
theorem Rws.grown {v : Value} {n M : Nat} {t : TypeId} {xs : List Value} (hr : Rws w N hs) (ho : w.ownsRow M t 1 v n xs) (ht : t ≠ 3) (hg : w.grownBy w' v.ownBlock) : Rws w' N hs := by
  refine ⟨fun x hx => (hr.1 x hx).kept hg ?_, hr.2⟩
  cases hb : v.ownBlock with
  | none =>
    cases hx2 : x.val.ownBlock with
    | none => exact Or.inl rfl
    | some k => right; intro e; cases e
  | some k =>
    right
    intro e
    obtain ⟨c1, h1⟩ := own_type ho k hb
    obtain ⟨c2, h2⟩ := own_type (hr.1 x hx) k e
    rw [h1] at h2
    injection h2 with h2; injection h2 with _ h2 _
    exact ht h2
theorem Rws.push {v1 : Value} {w1 : World} {x : Int} (hr : Rws w N (h :: hs))
    (hown : w1.ownsRow N 3 1 v1 (h.l.length + 1) (intCells h.l ++ [.int .i64 x])) (hg : (w.alloc (.cells #[.int .i64 x] 3)).grownBy w1 h.val.ownBlock)
    (hn : v1.ownBlock = h.val.ownBlock ∨ v1.ownBlock = some (w.alloc (.cells #[.int .i64 x] 3)).heap.size) :
    ∃ h' : Hd, h'.l = h.l ++ [x] ∧ h'.val = v1 ∧ Rws w1 N (h' :: hs) := by
  obtain ⟨a, c, rfl⟩ := own_len hown
  have hsz : (w.alloc (.cells #[.int .i64 x] 3)).heap.size = w.heap.size + 1 := by simp
  have hv : (⟨a, c, h.l ++ [x]⟩ : Hd).val = .slice a (h.l.length + 1) c := by simp [Hd.val]
  have hpw := List.pairwise_cons.1 hr.2
  refine ⟨⟨a, c, h.l ++ [x]⟩, rfl, hv, fun y hy => ?_, List.pairwise_cons.2 ⟨fun y hy b hb hb' => ?_, hpw.2⟩⟩
  · rcases List.mem_cons.1 hy with rfl | hy
    · rw [hv, List.length_append, ← intCells_snoc]; exact hown
    · refine ((hr.1 y (List.mem_cons_of_mem _ hy)).alloc _).kept hg ?_
      cases hb : y.val.ownBlock with
      | none => exact Or.inl rfl
      | some k => right; intro e; exact hpw.1 y hy k e.symm hb
  · rw [hv] at hb
    rcases hn with e | e
    · rw [e] at hb; exact hpw.1 y hy b hb hb'
    · rw [e] at hb
      have h1 := Option.some.inj hb
      have h2 := ((hr.1 y (List.mem_cons_of_mem _ hy)).lt b hb').2
      omega
/-- A row of one type stays while one of another type grows. -/
theorem own_types {v v2 : Value} {n n2 M M2 : Nat} {t t2 : TypeId} {xs xs2 : List Value} (h : w.ownsRow M t 1 v n xs) (h2 : w.ownsRow M2 t2 1 v2 n2 xs2) (ht : t ≠ t2) (hg : w.grownBy w' v2.ownBlock) : w'.ownsRow M t 1 v n xs := by
  refine h.kept hg ?_
  cases hb : v.ownBlock with
  | none => exact Or.inl rfl
  | some k =>
    right
    intro e
    obtain ⟨c1, h1⟩ := own_type h k hb
    obtain ⟨c2, h3⟩ := own_type h2 k e.symm
    rw [h1] at h3
    injection h3 with h3; injection h3 with _ h3 _
    exact ht h3
/-- The rows that a slice of the call's own holds. -/
theorem Rws.grid {v : Value} {M : Nat} (hr : Rws w N hs) (ho : w.ownsRow M 42 1 v hs.length (hdCells hs)) (hM : N ≤ M) : ∃ a c, v = .slice a hs.length c ∧ hs.length ≤ c ∧ c ≤ maxLen ∧ GridIn w N w.heap.size a (hs.map Hd.l) := by
  have hap : Apts hs := by
    refine ⟨?_, fun x hx => ?_⟩
    · rw [List.pairwise_iff_getElem]
      intro i j hi hj hij
      by_cases h1 : hs[i].l = []
      · exact Or.inl h1
      by_cases h2 : hs[j].l = []
      · exact Or.inr (Or.inl h2)
      right; right
      intro g o g' o' e1 e2
      have a1 := List.pairwise_iff_getElem.1 hr.2 i j hi hj hij
      obtain ⟨g1, c1, q1, _, _⟩ := own_form (hr.1 _ (List.getElem_mem hi)) (by cases hq : hs[i].l with | nil => exact absurd hq h1 | cons _ _ => simp)
      obtain ⟨g2, c2, q2, _, _⟩ := own_form (hr.1 _ (List.getElem_mem hj)) (by cases hq : hs[j].l with | nil => exact absurd hq h2 | cons _ _ => simp)
      have r1 : hs[i].a = some ⟨g1, 0, .none⟩ := by unfold Hd.val at q1; injection q1
      have r2 : hs[j].a = some ⟨g2, 0, .none⟩ := by unfold Hd.val at q2; injection q2
      rw [r1] at e1; rw [r2] at e2
      cases e1; cases e2
      rintro rfl
      exact a1 _ (by rw [q1]; rfl) (by rw [q2]; rfl)
    · obtain ⟨a, c, e, hc', _⟩ := own_fresh (hr.1 x hx) (by rw [intCells_len])
      have e2 : c = x.c := by unfold Hd.val at e; injection e with _ _ e; exact e.symm
      omega
  have hin : ∀ x ∈ hs, RowIn w N w.heap.size 3 x.a (intCells x.l) := fun x hx => by
    obtain ⟨a, c, e, _, hf⟩ := own_fresh (hr.1 x hx) (by rw [intCells_len])
    have e2 : a = x.a := by unfold Hd.val at e; injection e with e _ _; exact e.symm
    rw [e2] at hf
    exact RowIn.of_fresh hf
  exact grid_done (own_mono ho hM) rfl hin hap
theorem Rws.row (hr : Rws w N (h :: hs)) : ∃ a c, h.val = .slice a h.l.length c ∧ RowAt w a (intCells h.l) := own_row hr.head (by rw [intCells_len])
end
end Go.Proofs.Ytodgongemoabiaa
