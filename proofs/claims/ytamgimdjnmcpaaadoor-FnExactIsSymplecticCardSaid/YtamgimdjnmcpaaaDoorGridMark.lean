/-
  The walks of the laws' helpers that write marks into rows of rows, and read them again.
-/
import Derived.Test.YtamgimdjnmcpaaaDoorBase
import Derived.Test.YtamgimdjnmcpaaaDoorSlice
import Derived.Test.YtamgimdjnmcpaaaDoorIntRow
import Derived.Test.YtamgimdjnmcpaaaDoorInts
import Derived.Test.YtamgimdjnmcpaaaDoorGrid
import Derived.Test.YtamgimdjnmcpaaaDoorGridWalk
namespace Go.Proofs.YtamgimdjnmcpaaaDoor
open Go.RowKit

theorem markIntS_in (a : Option Addr) (c k lo hi : Nat) (l : List Int) (w : World) (hf : RowIn w lo hi 3 a (intCells l)) (h1 : k ≤ 1000000000) (hn : l.length ≤ 1000000000) :
    Calls Tryd.prog 43 #[.slice a l.length c, .int .i64 k] w fun e w' => e = .returned (.int .i64 (k + l.length : Nat)) ∧ RowIn w' lo hi 3 a (intCells (marksI k l.length)) ∧
      (l = [] ∧ w' = w ∨ l ≠ [] ∧ ∃ g o, a = some ⟨g, o, none⟩ ∧ lo ≤ g ∧ g < hi ∧ w.grownBy w' (some g)) := by
  by_cases he : l = []
  · subst he
    refine (markIntS_none a c k w h1).mono ?_
    rintro e w' ⟨rfl, rfl⟩
    exact ⟨rfl, Or.inl rfl, Or.inl ⟨rfl, rfl⟩⟩
  rcases hf with he' | ⟨g, o, all, rfl, hg, hh, hk, hc⟩
  · exact absurd (by simpa [intCells] using he') he
  · refine (markIntS_at g o c k l.length all w hk (fun i hi => ⟨l[i], hc i _ (intCells_get hi)⟩) h1 hn).mono ?_
    rintro e w' ⟨rfl, ⟨all', hk', _, hc'⟩, hgr⟩
    refine ⟨rfl, Or.inr ⟨g, o, all', rfl, hg, hh, hk', fun i v hv => ?_⟩, Or.inr ⟨he, g, o, rfl, hg, hh, hgr⟩⟩
    have hi : i < (marksI k l.length).length := by
      have := (List.getElem?_eq_some_iff.1 hv).1
      rwa [intCells_len] at this
    rw [intCells_get hi, marksI_at] at hv
    cases hv
    exact hc' i (by rwa [marksI_len] at hi)
theorem markIntS_only (a : Option Addr) (c k lo hi : Nat) (l : List Int) (w : World) (hf : RowIn w lo hi 3 a (intCells l)) (h1 : k ≤ 1000000000) (hn : l.length ≤ 1000000000) :
    Calls Tryd.prog 43 #[.slice a l.length c, .int .i64 k] w fun e w' => e = .returned (.int .i64 (k + l.length : Nat)) ∧ RowIn w' lo hi 3 a (intCells (marksI k l.length)) ∧ Only lo hi w w' := by
  refine (markIntS_in a c k lo hi l w hf h1 hn).mono ?_
  rintro e w' ⟨rfl, h, ⟨_, rfl⟩ | ⟨_, g, o, _, h2, h3, h4⟩⟩
  · exact ⟨rfl, h, Only.refl _ _ _⟩
  · exact ⟨rfl, h, (Only.of_grown h4).mono h2 (by omega)⟩

/-- Rows marked from k on. -/
def marksII : Nat → List (List Int) → List (List Int)
  | _, [] => []
  | k, r :: t => marksI k r.length :: marksII (k + r.length) t
def mkHd : Nat → List Hd → List Hd
  | _, [] => []
  | k, h :: t => ⟨h.a, h.c, marksI k h.l.length⟩ :: mkHd (k + h.l.length) t
theorem mkHd_map (k : Nat) (hs : List Hd) : (mkHd k hs).map Hd.l = marksII k (hs.map Hd.l) := by
  induction hs generalizing k with
  | nil => rfl
  | cons h t ih => simp [mkHd, marksII, ih]
theorem mkHd_cells (k : Nat) (hs : List Hd) : hdCells (mkHd k hs) = hdCells hs := by
  induction hs generalizing k with
  | nil => rfl
  | cons h t ih =>
    have := ih (k + h.l.length)
    simp only [hdCells, mkHd, List.map_cons] at this ⊢
    rw [this]; simp [Hd.val, marksI_len]
theorem mkHd_len (k : Nat) (hs : List Hd) : (mkHd k hs).length = hs.length := by
  induction hs generalizing k with
  | nil => rfl
  | cons h t ih => simp [mkHd, ih]
theorem mkHd_snoc (k : Nat) (hs : List Hd) (h : Hd) : mkHd k (hs ++ [h]) = mkHd k hs ++ [⟨h.a, h.c, marksI (k + sumLen (hs.map Hd.l)) h.l.length⟩] := by
  induction hs generalizing k with
  | nil => simp [mkHd, sumLen]
  | cons x t ih => simp [mkHd, ih, sumLen, Nat.add_assoc]
theorem marksII_len (k : Nat) (L : List (List Int)) : (marksII k L).length = L.length := by
  induction L generalizing k with
  | nil => rfl
  | cons h t ih => simp [marksII, ih]
theorem marksII_get (k : Nat) (L : List (List Int)) (i : Nat) (hi : i < L.length) : (marksII k L)[i]'(by rw [marksII_len]; exact hi) = marksI (k + sumLen (L.take i)) L[i].length := by
  induction L generalizing k i with
  | nil => simp at hi
  | cons h t ih =>
    cases i with
    | zero => simp [marksII, sumLen]
    | succ i =>
      have := ih (k + h.length) i (by simpa using hi)
      simp only [marksII, List.getElem_cons_succ]
      rw [this]
      simp [sumLen, Nat.add_assoc]

/-- What GridIn says, of the headers themselves. -/
def HdsIn (w : World) (lo hi : Nat) (a : Option Addr) (hs : List Hd) : Prop :=
  RowIn w lo hi 24 a (hdCells hs) ∧ (∀ h ∈ hs, RowIn w lo hi 3 h.a (intCells h.l)) ∧ Apts hs
theorem HdsIn.grid {w : World} {lo hi : Nat} {a : Option Addr} {hs : List Hd} (h : HdsIn w lo hi a hs) : GridIn w lo hi a (hs.map Hd.l) := ⟨hs, rfl, h⟩
theorem RowIn.other {w w' : World} {lo hi g : Nat} {t : TypeId} {a : Option Addr} {cs : List Value} (h : RowIn w lo hi t a cs) (hg : w.grownBy w' (some g)) (hne : cs = [] ∨ ∀ g' o', a = some ⟨g', o', none⟩ → g' ≠ g) : RowIn w' lo hi t a cs := by
  rcases h with h | ⟨g', o, all, rfl, h3, h4, hk, hc⟩
  · exact Or.inl h
  · rcases hne with rfl | hne
    · exact Or.inl rfl
    · exact Or.inr ⟨g', o, all, rfl, h3, h4, hk.grown hg (fun e => by cases e; exact hne _ _ rfl rfl), hc⟩
theorem HdsIn.mark {w w' : World} {lo hi : Nat} {a : Option Addr} {p q : List Hd} {x : Hd} {m : List Int} (h : HdsIn w lo hi a (p ++ x :: q)) (hm : m.length = x.l.length)
    (hx : RowIn w' lo hi 3 x.a (intCells m)) (hw : x.l = [] ∧ w' = w ∨ x.l ≠ [] ∧ ∃ g o, x.a = some ⟨g, o, none⟩ ∧ lo ≤ g ∧ g < hi ∧ w.grownBy w' (some g)) :
    HdsIn w' lo hi a (p ++ ⟨x.a, x.c, m⟩ :: q) := by
  obtain ⟨h1, h2, h3, h3c⟩ := h
  have hcells : hdCells (p ++ ⟨x.a, x.c, m⟩ :: q) = hdCells (p ++ x :: q) := by simp [hdCells, Hd.val, hm]
  have hpair : Apts (p ++ (⟨x.a, x.c, m⟩ : Hd) :: q) := by
    refine ⟨?_, fun y hy => ?_⟩
    rotate_left
    · rcases List.mem_append.1 hy with hy | hy
      · exact h3c y (List.mem_append.2 (Or.inl hy))
      · rcases List.mem_cons.1 hy with rfl | hy
        · have := h3c x (List.mem_append.2 (Or.inr (List.mem_cons_self ..)))
          show m.length ≤ x.c
          omega
        · exact h3c y (List.mem_append.2 (Or.inr (List.mem_cons_of_mem _ hy)))
    have he : m = [] ↔ x.l = [] := by rw [← List.length_eq_zero_iff, hm, List.length_eq_zero_iff]
    rw [List.pairwise_append, List.pairwise_cons] at h3 ⊢
    refine ⟨h3.1, ⟨fun y hy => ?_, h3.2.1.2⟩, fun y hy z hz => ?_⟩
    · have := h3.2.1.1 y hy
      unfold Apart at this ⊢
      simpa [he] using this
    · rcases List.mem_cons.1 hz with rfl | hz
      · have := h3.2.2 y hy x (List.mem_cons_self ..)
        unfold Apart at this ⊢
        simpa [he] using this
      · exact h3.2.2 y hy z (List.mem_cons_of_mem _ hz)
  rcases hw with ⟨he, rfl⟩ | ⟨hne, g, o, ha, hlo, hhi, hg⟩
  · refine ⟨by rw [hcells]; exact h1, fun y hy => ?_, hpair⟩
    rcases List.mem_append.1 hy with hy | hy
    · exact h2 y (List.mem_append.2 (Or.inl hy))
    · rcases List.mem_cons.1 hy with rfl | hy
      · exact hx
      · exact h2 y (List.mem_append.2 (Or.inr (List.mem_cons_of_mem _ hy)))
  · have hin : ∃ all, Blk w g 3 all := by
      rcases h2 x (List.mem_append.2 (Or.inr (List.mem_cons_self ..))) with e | ⟨g', o', all, e, _, _, hk, _⟩
      · exact absurd (by simpa [intCells] using e) hne
      · rw [ha] at e; cases e; exact ⟨all, hk⟩
    have other : ∀ y ∈ p ++ q, Apart y x ∨ Apart x y := by
      intro y hy
      rw [List.pairwise_append, List.pairwise_cons] at h3
      rcases List.mem_append.1 hy with hy | hy
      · exact Or.inl (h3.2.2 y hy x (List.mem_cons_self ..))
      · exact Or.inr (h3.2.1.1 y hy)
    have keep : ∀ y ∈ p ++ q, RowIn w lo hi 3 y.a (intCells y.l) → RowIn w' lo hi 3 y.a (intCells y.l) := by
      intro y hy hr
      refine hr.other hg ?_
      rcases other y hy with hA | hA
      · rcases hA with e | e | e
        · left; simp [intCells, e]
        · exact absurd e hne
        · right; intro g' o' e'; exact e _ _ _ _ e' ha
      · rcases hA with e | e | e
        · exact absurd e hne
        · left; simp [intCells, e]
        · right; intro g' o' e' e''; exact e _ _ _ _ ha e' e''.symm
    refine ⟨?_, fun y hy => ?_, hpair⟩
    · rw [hcells]
      rcases h1 with e | ⟨g', o', all', e, e1, e2, e3, e4⟩
      · exact Or.inl e
      · refine RowIn.other (Or.inr ⟨g', o', all', e, e1, e2, e3, e4⟩) hg (Or.inr fun g2 o2 e' => ?_)
        rw [e] at e'; cases e'
        rintro rfl
        obtain ⟨all, hk⟩ := hin
        unfold Blk at hk e3
        rw [hk] at e3
        injection e3 with e3; injection e3 with _ e5 _
        exact absurd e5 (by decide)
    · rcases List.mem_append.1 hy with hy | hy
      · exact keep y (List.mem_append.2 (Or.inl hy)) (h2 y (List.mem_append.2 (Or.inl hy)))
      · rcases List.mem_cons.1 hy with rfl | hy
        · exact hx
        · exact keep y (List.mem_append.2 (Or.inr hy)) (h2 y (List.mem_append.2 (Or.inr (List.mem_cons_of_mem _ hy))))

set_option maxRecDepth 10000 in
set_option maxHeartbeats 400000 in
theorem markIntSS (a : Option Addr) (c k lo hi : Nat) (L : List (List Int)) (w : World) (ha : GridIn w lo hi a L) (h1 : k ≤ 500000000) (hl : tot L ≤ 1048576) :
    Calls Tryd.prog 46 #[.slice a L.length c, .int .i64 k] w fun e w' => e = .returned (.int .i64 (k + sumLen L : Nat)) ∧ GridIn w' lo hi a (marksII k L) ∧ Only lo hi w w' := by
  obtain ⟨hs, rfl, hh⟩ := ha
  have HL := Lib.hid hl
  have Hh := Lib.hid hh
  have hln : (hs.map Hd.l).length = hs.length := by simp
  rw [hln]
  have hlm : hs.length ≤ 1048576 := by unfold tot at hl; omega
  clear hl hh hln
  generalize hv : k + sumLen (hs.map Hd.l) = v
  generalize hM : marksII k (hs.map Hd.l) = M
  have Hv := Lib.hid hv; have HM := Lib.hid hM; clear hv hM
  go_enter Tryd.func46, Tryd.ntmps46
  go_wp2
  go_loopw [1, 5] (fun kv iv wr => ∃ i : Nat, i ≤ hs.length ∧ iv = .int .i64 i ∧ kv = .int .i64 (k + sumLen ((hs.take i).map Hd.l) : Nat) ∧ Hid (HdsIn wr lo hi a (mkHd k (hs.take i) ++ hs.drop i) ∧ Only lo hi w wr)) (fun _ iv _ => hs.length - (intOf iv).toNat)
  case atStart => exact ⟨0, by omega, rfl, by simp [sumLen], Lib.hid ⟨Hh.out, Only.refl _ _ _⟩⟩
  case round =>
    obtain ⟨i, hib, rfl, rfl, hp⟩ := hrel
    by_cases hlt : i < hs.length
    · have hlen : (mkHd k (hs.take i)).length = i := by rw [mkHd_len, List.length_take]; omega
      have hcut : hs.drop i = hs[i] :: hs.drop (i + 1) := List.drop_eq_getElem_cons hlt
      have htake : hs.take (i + 1) = hs.take i ++ [hs[i]] := List.take_succ_eq_append_getElem hlt
      have hcells : hdCells (mkHd k (hs.take i) ++ hs.drop i) = hdCells hs := by
        have e1 := mkHd_cells k (hs.take i)
        unfold hdCells at e1 ⊢
        rw [List.map_append, e1, ← List.map_append, List.take_append_drop]
      obtain ⟨b, o, rfl, hbw, hc⟩ := (show RowAt wr a (hdCells hs) from hcells ▸ hp.out.1.1.row).at (i := i) (by rw [hdCells_len]; exact hlt)
      have hcell := hc i _ (hdCells_get hlt)
      have hrow := hp.out.1.2.1 hs[i] (List.mem_append.2 (Or.inr (by rw [hcut]; exact List.mem_cons_self ..)))
      have hle : sumLen ((hs.take (i + 1)).map Hd.l) ≤ sumLen (hs.map Hd.l) := by rw [List.map_take]; exact sumLen_le _ _
      have hst : sumLen ((hs.take (i + 1)).map Hd.l) = sumLen ((hs.take i).map Hd.l) + hs[i].l.length := by
        rw [htake, List.map_append]; simp [sumLen]
      have htl := HL.out
      unfold tot at htl
      rw [hcut] at hp
      have hmk := mkHd_snoc k (hs.take i) hs[i]
      rw [← htake] at hmk
      generalize hs[i] = x at *
      obtain ⟨xa, xc, xl⟩ := x
      simp only [Hd.val] at hcell hrow hst
      generalize sumLen ((hs.take i).map Hd.l) = S at *
      generalize hS' : sumLen ((hs.take (i + 1)).map Hd.l) = S' at *
      have hk1 : k + S ≤ 1000000000 := by omega
      have hk2 : xl.length ≤ 1000000000 := by omega
      have Hrow := Lib.hid hrow; have Hst := Lib.hid hst; have Hmk := Lib.hid hmk; have HS' := Lib.hid hS'
      clear hrow hst hmk hle hcut htake hcells hlen htl hc hS'
      go_wp2_with fail
      refine (markIntS_in xa xc (k + S) lo hi xl wr Hrow.out hk1 hk2).mono ?_
      rintro e w1 ⟨rfl, hr, hw⟩
      have Hr := Lib.hid hr; have Hw := Lib.hid hw
      clear hr hw
      go_wp2
      go_roundw
      case rel =>
        refine ⟨i + 1, by omega, by go_num, by rw [HS'.out, Hst.out]; congr 1; omega, Lib.hid ⟨?_, ?_⟩⟩
        · have h := hp.out.1.mark (m := marksI (k + S) xl.length) (marksI_len _ _) Hr.out Hw.out
          rw [Hmk.out, List.append_assoc]
          exact h
        · refine hp.out.2.trans ?_
          rcases Hw.out with ⟨_, rfl⟩ | ⟨_, g, o, _, e1, e2, e3⟩
          · exact Only.refl _ _ _
          · exact (Only.of_grown e3).mono e1 (by omega)
      case measure => simp [intOf]; omega
    · obtain rfl : i = hs.length := by omega
      rw [List.take_of_length_le (Nat.le_refl _), Hv.out]
      rw [List.take_of_length_le (Nat.le_refl _), List.drop_length, List.append_nil] at hp
      go_wp2
      go_ret
      refine ⟨rfl, ?_, hp.out.2⟩
      rw [← HM.out, ← mkHd_map]
      exact hp.out.1.grid

set_option maxRecDepth 10000 in
set_option maxHeartbeats 400000 in
theorem heldIntSS (a : Option Addr) (c k : Nat) (L : List (List Int)) (w : World) (ha : GridAt w a (marksII k L)) (h1 : k ≤ 500000000) (hl : tot L ≤ 1048576) :
    Calls Tryd.prog 47 #[.slice a L.length c, .int .i64 k] w fun e w' => e = .returned (.int .i64 (k + sumLen L : Nat)) ∧ Below w.heap.size w w' := by
  have HL := Lib.hid hl
  have Ha := Lib.hid ha
  have hlm : L.length ≤ 1048576 := by unfold tot at hl; omega
  clear hl ha
  generalize hv : k + sumLen L = v
  have Hv := Lib.hid hv; clear hv
  go_enter Tryd.func47, Tryd.ntmps47
  go_wp2
  go_loopw [1, 4, 5] (fun kv rv iv wr => rv = .int .i64 0 ∧ ∃ i : Nat, i ≤ L.length ∧ iv = .int .i64 i ∧ kv = .int .i64 (k + sumLen (L.take i) : Nat) ∧ Below w.heap.size w wr) (fun _ _ iv _ => L.length - (intOf iv).toNat)
  case atStart => exact ⟨rfl, 0, by omega, rfl, by simp [sumLen], Below.refl _ _⟩
  case round =>
    obtain ⟨rfl, i, hi, rfl, rfl, hb⟩ := hrel
    by_cases hlt : i < L.length
    · obtain ⟨b, o, ai, ci, rfl, hbw, hcell, hrow⟩ := (Ha.out.below hb).at (i := i) (by rw [marksII_len]; exact hlt)
      rw [marksII_get k L i hlt] at hcell hrow
      rw [marksI_len] at hcell
      have hst := sumLen_take hlt
      have hle := sumLen_le L (i + 1)
      have htl := HL.out
      unfold tot at htl
      generalize L[i] = r at *
      generalize sumLen (L.take i) = S at *
      generalize hS' : sumLen (L.take (i + 1)) = S' at *
      have hk1 : k + S ≤ 1000000000 := by omega
      have hk2 : r.length ≤ 1000000000 := by omega
      have h2 : (0 : Int) ≤ ((k + S + r.length : Nat) : Int) := by omega
      have Hrow := Lib.hid hrow; have Hst := Lib.hid hst; have HS' := Lib.hid hS'
      clear hrow hst hle htl hS'
      go_wp2_with fail
      refine (heldIntS ai r.length ci (k + S) wr Hrow.out hk1 hk2).mono ?_
      rintro e w1 ⟨rfl, hb1⟩
      generalize hq : k + S + r.length = Q at *
      have Hq := Lib.hid hq
      clear hq
      have h3 : ¬ ((Q : Int) < 0) := by omega
      have Hb := Lib.hid hb; have Hb1 := Lib.hid hb1
      clear hb hb1
      go_wp2
      go_roundw
      case rel => exact ⟨rfl, i + 1, by omega, by go_num, by rw [HS'.out, Hst.out, ← Hq.out, Nat.add_assoc], Hb.out.trans (Hb1.out.mono Hb.out.size)⟩
      case measure => simp [intOf]; omega
    · obtain rfl : i = L.length := by omega
      rw [List.take_of_length_le (Nat.le_refl _), Hv.out]
      go_wp2
      go_ret
      exact ⟨rfl, hb⟩
end Go.Proofs.YtamgimdjnmcpaaaDoor
