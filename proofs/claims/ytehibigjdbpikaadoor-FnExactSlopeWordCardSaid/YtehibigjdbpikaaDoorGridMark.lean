/-
  The walks of the laws' helpers that write marks into rows of rows, and read them again.
-/
import Derived.Test.YtehibigjdbpikaaDoorBase
import Derived.Test.YtehibigjdbpikaaDoorSlice
import Derived.Test.YtehibigjdbpikaaDoorIntRow
import Derived.Test.YtehibigjdbpikaaDoorInts
import Derived.Test.YtehibigjdbpikaaDoorGrid
import Derived.Test.YtehibigjdbpikaaDoorGridWalk
namespace Go.Proofs.YtehibigjdbpikaaDoor
open Go.RowKit

theorem markIntS_in (a : Option Addr) (c k lo hi : Nat) (l : List Int) (w : World) (hf : RowIn w lo hi 3 a (intCells l)) (h1 : k ≤ 1000000000) (hn : l.length ≤ 1000000000) :
    Calls Tryd.prog 31 #[.slice a l.length c, .int .i64 k] w fun e w' => e = .returned (.int .i64 (k + l.length : Nat)) ∧ RowIn w' lo hi 3 a (intCells (marksI k l.length)) ∧
      (l = [] ∧ w' = w ∨ l ≠ [] ∧ ∃ g o, a = some ⟨g, o, none⟩ ∧ lo ≤ g ∧ g < hi ∧ w.grownBy w' (some g)) := by
  by_cases he : l = []
  · subst he
    refine (markIntS_none a c k w h1).mono ?_
    rintro e w' ⟨rfl, rfl⟩
    exact ⟨rfl, Or.inl rfl, Or.inl ⟨rfl, rfl⟩⟩
  rcases hf with he' | ⟨g, o, all, rfl, hg, hh, hk, hc⟩
  · exact absurd (by simpa [intCells] using he') he
  · refine (markIntS_at g o c k l.length all w hk (fun i hi => ⟨l[i], hc i _ (intCells_get hi)⟩) h1 hn).mono ?_
    rintro e w' ⟨rfl, ⟨all', hk', _, hc'⟩, hgr⟩
    refine ⟨rfl, Or.inr ⟨g, o, all', rfl, hg, hh, hk', fun i v hv => ?_⟩, Or.inr ⟨he, g, o, rfl, hg, hh, hgr⟩⟩
    have hi : i < (marksI k l.length).length := by
      have := (List.getElem?_eq_some_iff.1 hv).1
      rwa [intCells_len] at this
    rw [intCells_get hi, marksI_at] at hv
    cases hv
    exact hc' i (by rwa [marksI_len] at hi)
theorem markIntS_only (a : Option Addr) (c k lo hi : Nat) (l : List Int) (w : World) (hf : RowIn w lo hi 3 a (intCells l)) (h1 : k ≤ 1000000000) (hn : l.length ≤ 1000000000) :
    Calls Tryd.prog 31 #[.slice a l.length c, .int .i64 k] w fun e w' => e = .returned (.int .i64 (k + l.length : Nat)) ∧ RowIn w' lo hi 3 a (intCells (marksI k l.length)) ∧ Only lo hi w w' := by
  refine (markIntS_in a c k lo hi l w hf h1 hn).mono ?_
  rintro e w' ⟨rfl, h, ⟨_, rfl⟩ | ⟨_, g, o, _, h2, h3, h4⟩⟩
  · exact ⟨rfl, h, Only.refl _ _ _⟩
  · exact ⟨rfl, h, (Only.of_grown h4).mono h2 (by omega)⟩

/-- Rows marked from k on. -/
def marksII : Nat → List (List Int) → List (List Int)
  | _, [] => []
  | k, r :: t => marksI k r.length :: marksII (k + r.length) t
def mkHd : Nat → List Hd → List Hd
  | _, [] => []
  | k, h :: t => ⟨h.a, h.c, marksI k h.l.length⟩ :: mkHd (k + h.l.length) t
theorem mkHd_map (k : Nat) (hs : List Hd) : (mkHd k hs).map Hd.l = marksII k (hs.map Hd.l) := by
  induction hs generalizing k with
  | nil => rfl
  | cons h t ih => simp [mkHd, marksII, ih]
theorem mkHd_cells (k : Nat) (hs : List Hd) : hdCells (mkHd k hs) = hdCells hs := by
  induction hs generalizing k with
  | nil => rfl
  | cons h t ih =>
    have := ih (k + h.l.length)
    simp only [hdCells, mkHd, List.map_cons] at this ⊢
    rw [this]; simp [Hd.val, marksI_len]
theorem mkHd_len (k : Nat) (hs : List Hd) : (mkHd k hs).length = hs.length := by
  induction hs generalizing k with
  | nil => rfl
  | cons h t ih => simp [mkHd, ih]
theorem mkHd_snoc (k : Nat) (hs : List Hd) (h : Hd) : mkHd k (hs ++ [h]) = mkHd k hs ++ [⟨h.a, h.c, marksI (k + sumLen (hs.map Hd.l)) h.l.length⟩] := by
  induction hs generalizing k with
  | nil => simp [mkHd, sumLen]
  | cons x t ih => simp [mkHd, ih, sumLen, Nat.add_assoc]
theorem marksII_len (k : Nat) (L : List (List Int)) : (marksII k L).length = L.length := by
  induction L generalizing k with
  | nil => rfl
  | cons h t ih => simp [marksII, ih]
theorem marksII_get (k : Nat) (L : List (List Int)) (i : Nat) (hi : i < L.length) : (marksII k L)[i]'(by rw [marksII_len]; exact hi) = marksI (k + sumLen (L.take i)) L[i].length := by
  induction L generalizing k i with
  | nil => simp at hi
  | cons h t ih =>
    cases i with
    | zero => simp [marksII, sumLen]
    | succ i =>
      have := ih (k + h.length) i (by simpa using hi)
      simp only [marksII, List.getElem_cons_succ]
      rw [this]
      simp [sumLen, Nat.add_assoc]

/-- What GridIn says, of the headers themselves. -/
def HdsIn (w : World) (lo hi : Nat) (a : Option Addr) (hs : List Hd) : Prop :=
  RowIn w lo hi 40 a (hdCells hs) ∧ (∀ h ∈ hs, RowIn w lo hi 3 h.a (intCells h.l)) ∧ Apts hs
theorem HdsIn.grid {w : World} {lo hi : Nat} {a : Option Addr} {hs : List Hd} (h : HdsIn w lo hi a hs) : GridIn w lo hi a (hs.map Hd.l) := ⟨hs, rfl, h⟩
theorem RowIn.other {w w' : World} {lo hi g : Nat} {t : TypeId} {a : Option Addr} {cs : List Value} (h : RowIn w lo hi t a cs) (hg : w.grownBy w' (some g)) (hne : cs = [] ∨ ∀ g' o', a = some ⟨g', o', none⟩ → g' ≠ g) : RowIn w' lo hi t a cs := by
  rcases h with h | ⟨g', o, all, rfl, h3, h4, hk, hc⟩
  · exact Or.inl h
  · rcases hne with rfl | hne
    · exact Or.inl rfl
    · exact Or.inr ⟨g', o, all, rfl, h3, h4, hk.grown hg (fun e => by cases e; exact hne _ _ rfl rfl), hc⟩
theorem HdsIn.mark {w w' : World} {lo hi : Nat} {a : Option Addr} {p q : List Hd} {x : Hd} {m : List Int} (h : HdsIn w lo hi a (p ++ x :: q)) (hm : m.length = x.l.length)
    (hx : RowIn w' lo hi 3 x.a (intCells m)) (hw : x.l = [] ∧ w' = w ∨ x.l ≠ [] ∧ ∃ g o, x.a = some ⟨g, o, none⟩ ∧ lo ≤ g ∧ g < hi ∧ w.grownBy w' (some g)) :
    HdsIn w' lo hi a (p ++ ⟨x.a, x.c, m⟩ :: q) := by
  obtain ⟨h1, h2, h3, h3c⟩ := h
  have hcells : hdCells (p ++ ⟨x.a, x.c, m⟩ :: q) = hdCells (p ++ x :: q) := by simp [hdCells, Hd.val, hm]
  have hpair : Apts (p ++ (⟨x.a, x.c, m⟩ : Hd) :: q) := by
    refine ⟨?_, fun y hy => ?_⟩
    rotate_left
    · rcases List.mem_append.1 hy with hy | hy
      · exact h3c y (List.mem_append.2 (Or.inl hy))
      · rcases List.mem_cons.1 hy with rfl | hy
        · have := h3c x (List.mem_append.2 (Or.inr (List.mem_cons_self ..)))
          show m.length ≤ x.c
          omega
        · exact h3c y (List.mem_append.2 (Or.inr (List.mem_cons_of_mem _ hy)))
    have he : m = [] ↔ x.l = [] := by rw [← List.length_eq_zero_iff, hm, List.length_eq_zero_iff]
    rw [List.pairwise_append, List.pairwise_cons] at h3 ⊢
    refine ⟨h3.1, ⟨fun y hy => ?_, h3.2.1.2⟩, fun y hy z hz => ?_⟩
    · have := h3.2.1.1 y hy
      unfold Apart at this ⊢
      simpa [he] using this
    · rcases List.mem_cons.1 hz with rfl | hz
      · have := h3.2.2 y hy x (List.mem_cons_self ..)
        unfold Apart at this ⊢
        simpa [he] using this
      · exact h3.2.2 y hy z (List.mem_cons_of_mem _ hz)
  rcases hw with ⟨he, rfl⟩ | ⟨hne, g, o, ha, hlo, hhi, hg⟩
  · refine ⟨by rw [hcells]; exact h1, fun y hy => ?_, hpair⟩
    rcases List.mem_append.1 hy with hy | hy
    · exact h2 y (List.mem_append.2 (Or.inl hy))
    · rcases List.mem_cons.1 hy with rfl | hy
      · exact hx
      · exact h2 y (List.mem_append.2 (Or.inr (List.mem_cons_of_mem _ hy)))
  · have hin : ∃ all, Blk w g 3 all := by
      rcases h2 x (List.mem_append.2 (Or.inr (List.mem_cons_self ..))) with e | ⟨g', o', all, e, _, _, hk, _⟩
      · exact absurd (by simpa [intCells] using e) hne
      · rw [ha] at e; cases e; exact ⟨all, hk⟩
    have other : ∀ y ∈ p ++ q, Apart y x ∨ Apart x y := by
      intro y hy
      rw [List.pairwise_append, List.pairwise_cons] at h3
      rcases List.mem_append.1 hy with hy | hy
      · exact Or.inl (h3.2.2 y hy x (List.mem_cons_self ..))
      · exact Or.inr (h3.2.1.1 y hy)
    have keep : ∀ y ∈ p ++ q, RowIn w lo hi 3 y.a (intCells y.l) → RowIn w' lo hi 3 y.a (intCells y.l) := by
      intro y hy hr
      refine hr.other hg ?_
      rcases other y hy with hA | hA
      · rcases hA with e | e | e
        · left; simp [intCells, e]
        · exact absurd e hne
        · right; intro g' o' e'; exact e _ _ _ _ e' ha
      · rcases hA with e | e | e
        · exact absurd e hne
        · left; simp [intCells, e]
        · right; intro g' o' e' e''; exact e _ _ _ _ ha e' e''.symm
    refine ⟨?_, fun y hy => ?_, hpair⟩
    · rw [hcells]
      rcases h1 with e | ⟨g', o', all', e, e1, e2, e3, e4⟩
      · exact Or.inl e
      · refine RowIn.other (Or.inr ⟨g', o', all', e, e1, e2, e3, e4⟩) hg (Or.inr fun g2 o2 e' => ?_)
        rw [e] at e'; cases e'
        rintro rfl
        obtain ⟨all, hk⟩ := hin
        unfold Blk at hk e3
        rw [hk] at e3
        injection e3 with e3; injection e3 with _ e5 _
        exact absurd e5 (by decide)
    · rcases List.mem_append.1 hy with hy | hy
      · exact keep y (List.mem_append.2 (Or.inl hy)) (h2 y (List.mem_append.2 (Or.inl hy)))
      · rcases List.mem_cons.1 hy with rfl | hy
        · exact hx
        · exact keep y (List.mem_append.2 (Or.inr hy)) (h2 y (List.mem_append.2 (Or.inr (List.mem_cons_of_mem _ hy))))


end Go.Proofs.YtehibigjdbpikaaDoor
