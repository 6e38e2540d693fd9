/-
  The walks of the model's draws of permutations, passports, braids and maps' passports. The walks of the model's draws of passports, braids and maps' passports. The walks of the model's draws of branched coverings out of bytes.
-/
import Derived.Test.YtpebgompfgkljaaGreatBase
import Derived.Test.YtpebgompfgkljaaGreatSlice
import Derived.Test.YtpebgompfgkljaaGreatIntRow
import Derived.Test.YtpebgompfgkljaaGreatInts
import Derived.Test.YtpebgompfgkljaaGreatOwn
import Derived.Test.YtpebgompfgkljaaGreatAppend
import Derived.Test.YtpebgompfgkljaaGreatGridRows
import Derived.Test.YtpebgompfgkljaaGreatWord
import Derived.Test.YtpebgompfgkljaaGreatGrid
import Derived.Test.YtpebgompfgkljaaGreatGridWalk
import Derived.Test.YtpebgompfgkljaaGreatDraw
import Derived.Test.YtpebgompfgkljaaGreatDrawWord
import Derived.Test.YtpebgompfgkljaaGreatCurG
import Derived.Test.YtpebgompfgkljaaGreatDrawMap
import Derived.Test.YtpebgompfgkljaaGreatDrawMap2
import Derived.Test.YtpebgompfgkljaaGreatMoveA
import Derived.Test.YtpebgompfgkljaaGreatCovF
import Derived.Test.YtpebgompfgkljaaGreatCov
import Derived.Test.YtpebgompfgkljaaGreatBrA
import Derived.Deep.QuietTactic
import Derived.BigQuiet
import Derived.StillTailTactics
namespace Go.Proofs.YtpebgompfgkljaaGreat
open Go.RowKit

/-- A row of its own in a new block stays apart from another row's block. -/
theorem rest_apart {w w' : World} {g n k cap : Nat} {e : TypeId} {v : Value} {xs : List Value} (h : w'.ownsRow w.heap.size e 1 v n xs) (hg : g < w.heap.size) : v.ownBlock = none ∨ v.ownBlock ≠ (Value.slice (some ⟨g, 0, none⟩) k cap).ownBlock := by
  cases hq : v.ownBlock with
  | none => exact Or.inl rfl
  | some q =>
    right
    intro e
    have h1 := (h.lt q hq).1
    have h2 : q = g := by have := Option.some.inj (e : some q = some g); exact this
    omega
theorem block_new {v : Value} {g B M : Nat} (h : v.ownBlock = some g ∨ v.ownBlock = some M) (hM : B ≤ M) : ∀ q, v.ownBlock = some q → q = g ∨ B ≤ q := fun q hq => by
  rcases h with e | e
  · left; rw [e] at hq; exact (Option.some.inj hq).symm
  · right; rw [e] at hq; have := Option.some.inj hq; omega
theorem grown_two {w w1 w2 : World} {g : Nat} {v : Value} (h : w.grownBy w1 (some g)) (h' : w1.grownBy w2 v.ownBlock) (hv : ∀ q, v.ownBlock = some q → q = g ∨ w.heap.size ≤ q) : w.grownBy w2 (some g) :=
  ⟨h'.os.trans h.os, h'.tape.trans h.tape, h'.output.trans h.output, Nat.le_trans h.size h'.size, fun q hq hne => by
    refine (h'.block q (Nat.lt_of_lt_of_le hq h.size) (fun e => ?_)).trans (h.block q hq hne)
    rcases hv q e.symm with h | h
    · exact hne (by rw [h])
    · omega⟩
/-- A row of a call's own that was drawn. -/
def DrawnP (w : World) (g n : Nat) (e : Ending) (w' : World) : Prop := ∃ v l, e = .returned v ∧ (l : List Int).length = n ∧ w'.ownsRow w.heap.size 3 1 v n (intCells l) ∧ CurG w g w'
set_option maxRecDepth 100000 in
set_option maxHeartbeats 4000000 in
theorem l9Perm (g n : Nat) (w : World) (hc : CurAt w g) (hn : n ≤ 10) :
    Calls Tryz.prog 113 #[.pointer (some ⟨g, 0, none⟩), .int .i64 (n : Int)] w (DrawnP w g n) := by
  obtain ⟨i0, hi0, hz0, hz1, hz2⟩ := info_int_parts
  have Hi0 := Lib.hid hi0; have Hz0 := Lib.hid hz0; have Hz1 := Lib.hid hz1; have Hz2 := Lib.hid hz2
  have hgw := hc.lt
  have Hcur0 := Lib.hid ((show CurG w g w from ⟨hc, World.grownBy.refl _ _⟩).alloc (.cells #[] 3))
  have Hm0 := Lib.hid (own_made (w := w) rfl)
  obtain ⟨N, hN⟩ : ∃ N, w.heap.size = N := ⟨_, rfl⟩
  have HN := Lib.hid hN
  rw [hN] at Hm0 hgw
  clear hi0 hz0 hz1 hz2 hc hN
  go_enter Tryz.func113, Tryz.ntmps113
  go_wp2
  go_loopw [5, 6, 7, 8] (fun ov kv _ _ wr => ∃ i : Nat, i ≤ n ∧ kv = .int .i64 i ∧ ∃ G cap, ov = .slice (some ⟨G, 0, none⟩) i cap ∧ Hid (∃ l : List Int, l.length = i ∧ wr.ownsRow N 3 1 (.slice (some ⟨G, 0, none⟩) i cap) i (intCells l)) ∧ Hid (CurG w g wr)) (fun _ kv _ _ _ => n - (intOf kv).toNat)
  case atStart => exact ⟨0, by omega, rfl, N, 0, by rw [HN.out], Lib.hid ⟨[], rfl, Hm0.out⟩, Hcur0⟩
  case round =>
    obtain ⟨i, hi, rfl, G, cap, rfl, hrow, hcur⟩ := hrel
    by_cases hlt : i < n
    · obtain ⟨l, hll, hown⟩ := hrow.out
      have Hown := Lib.hid hown; have Hll := Lib.hid hll
      have e1 : IntKind.i64.wrap ((i : Int) + 1) = (i : Int) + 1 := wrap_small (by omega) (by omega)
      have hcap : i ≤ cap := by
        obtain ⟨a, c, e, hc, _⟩ := own_fresh hown (by rw [intCells_len]; exact hll)
        cases e; exact hc
      have hGN : N ≤ G := (hown.lt G rfl).1
      have dlt : (i : Int) < (n : Int) := by omega
      clear hrow hll hown
      go_wp2_with fail
      refine (l1Below g ((i : Int) + 1) wr hcur.out.1 (by omega) (by omega)).mono ?_
      rintro e w3 ⟨⟨z, rfl, hz0, hz1⟩, hc3, hg3⟩
      obtain ⟨k, rfl⟩ : ∃ k : Nat, z = (k : Int) := ⟨z.toNat, by omega⟩
      have hk : k ≤ i := by omega
      have Hown3 := Lib.hid (own_cur Hown.out hg3 hgw)
      have Hcur3 := Lib.hid (hcur.out.drawn hc3 hg3)
      have hN3 : N ≤ w3.heap.size := by have := Hcur3.out.size; have := HN.out; omega
      have Hrow := Lib.hid (show RowAt w3 (some ⟨G, 0, none⟩) (intCells l) from by
        obtain ⟨a, c, e, hr⟩ := own_row Hown3.out (by rw [intCells_len]; exact Hll.out)
        cases e; exact hr)
      obtain ⟨A2, hA2⟩ : ∃ A2, (if cap = k then (some ⟨G, 0, none⟩ : Option Addr) else some ⟨G, 0 + k, none⟩) = A2 := ⟨_, rfl⟩
      have hrA := Cv.row_cut (c := cap) (m := k) Hrow.out (by rw [Hll.out]; exact hk) (by rw [Hll.out]; exact hcap)
      rw [hA2] at hrA
      rw [Nat.zero_add] at hA2
      have HrA := Lib.hid hrA
      have hal : Below w3.heap.size w3 (w3.alloc (.cells #[] 3)) := (Below.refl _ _).alloc (Nat.le_refl _) _
      have Hmk := Lib.hid (own_made (w := w3) rfl)
      have HrM := Lib.hid (HrA.out.below hal)
      have Hal := Lib.hid hal
      have Hl2 := Lib.hid (show (intCells (l.drop k)).length = i - k by rw [intCells_len, List.length_drop, Hll.out])
      have Htk := Lib.hid (show (intCells l).take k = intCells (l.take k) from intCells_take l k)
      have a7 : 0 + (i - k) ≤ maxLen := by unfold maxLen; omega
      have a8 : (0 + (i - k)) * 8 ≤ 140737488355328 := by omega
      have a3 : k + 1 ≤ maxLen := by unfold maxLen; omega
      have a4 : (k + 1) * 8 ≤ 140737488355328 := by omega
      have a5 : k + 1 + (i - k) ≤ maxLen := by unfold maxLen; omega
      have a6 : (k + 1 + (i - k)) * 8 ≤ 140737488355328 := by omega
      have hkc : (k : Int) ≤ (cap : Int) := by omega
      have hkl : (k : Int) ≤ (i : Int) := by omega
      have hk0 : (0 : Int) ≤ (k : Int) := by omega
      have hkc' : k ≤ cap := by omega
      clear hal hrA hc3 hg3 hz0 hz1 hcur
      go_wp2_with (first
        | (at_builtin; refine append_row rfl (.tmp 20) (.tmp 23) 30 rfl w3.heap.size 3 i0 _ 8 Tryz.underlying30 Hi0.out Hz0.out Hz1.out Hz2.out (by rfl) _ 0 (intCells []) rfl Hmk.out A2 (i - k) _ (intCells (l.drop k)) rfl HrM.out Hl2.out (intCells_one _) a7 a8 Hal.out.size ?_; intro v2 w4 hown2 hg2; rw [Nat.zero_add] at hown2; have hb2 := Below.grown Hal.out hg2 Hal.out.size (fun k hk => (Hmk.out.lt k hk).1); obtain ⟨ra, rc, rfl, hrr⟩ := own_row hown2 Hl2.out; have hl' := own_take (own_keep Hown3.out hb2 (fun k hk => (Hown3.out.lt k hk).2)) hk; rw [Htk.out] at hl'; have Hb2 := Lib.hid hb2; have Hrest := Lib.hid (show w4.ownsRow w3.heap.size 3 1 (.slice ra (i - k) rc) (i - k) (intCells (l.drop k)) from hown2); have Hl' := Lib.hid hl'; have hN2 : N ≤ w4.heap.size := Nat.le_trans hN3 hb2.size; clear hown2 hg2 hb2 hrr hl')
        | (at_builtin; refine append_one_new rfl (.tmp 27) (.tmp 29) 30 rfl N 3 i0 _ 8 Tryz.underlying30 Hi0.out Hz0.out Hz1.out Hz2.out (by rfl) _ _ _ rfl Hl'.out (by rfl) _ rfl a3 a4 hN2 ?_; intro v3 w5 hown3 hg3 hn3; have hg3' : (w4.alloc (.cells #[.int .i64 (i : Int)] 3)).grownBy w5 (Value.slice (some ⟨G, 0, none⟩) k cap).ownBlock := hg3; have hGlt := (Hown3.out.lt G rfl).2; have hrest3 := (Hrest.out.alloc (.cells #[.int .i64 (i : Int)] 3)).kept hg3' (rest_apart Hrest.out hGlt); obtain ⟨ra', rc', e3, hrr3⟩ := own_row hrest3 Hl2.out; cases e3; have hG3 : w3.grownBy w5 (some G) := grown_trans (only_of_below (Hb2.out.alloc Hb2.out.size _) (some G)) hg3'; have hn3'' := block_new (B := w3.heap.size) hn3 (by have := Hb2.out.size; simp; omega); have Hrr3 := Lib.hid hrr3; have Hown5 := Lib.hid hown3; have HG3 := Lib.hid hG3; have Hn3 := Lib.hid hn3''; have hN5 : N ≤ w5.heap.size := Nat.le_trans hN3 hG3.size; clear hown3 hg3 hg3' hrest3 hrr3 hG3 hn3 hn3'' hGlt)
        | (at_builtin; refine append_row_new rfl (.tmp 30) (.tmp 31) 30 rfl N 3 i0 _ 8 Tryz.underlying30 Hi0.out Hz0.out Hz1.out Hz2.out (by rfl) _ _ _ rfl Hown5.out ra (i - k) _ (intCells (l.drop k)) rfl Hrr3.out Hl2.out (intCells_one _) a5 a6 hN5 ?_; intro v4 w6 hown4 hg4 hn4; have hG4 := grown_two HG3.out hg4 Hn3.out; rw [show k + 1 + (i - k) = i + 1 by omega] at hown4; obtain ⟨G', cap', rfl, _, _⟩ := own_form hown4 (by omega); have Hown6 := Lib.hid hown4; have HG4 := Lib.hid hG4; clear hown4 hg4 hG4 hn4))
      go_roundw
      case rel =>
        refine ⟨i + 1, by omega, by go_num, G', cap', rfl, Lib.hid ⟨l.take k ++ [(i : Int)] ++ l.drop k, ?_, ?_⟩, Lib.hid (Hcur3.out.row HG4.out (by rw [HN.out]; exact hgw) (fun q hq => by cases hq; rw [HN.out]; exact hGN))⟩
        · rw [List.length_append, List.length_append, List.length_take, List.length_drop, Hll.out]; simp; omega
        · have h := Hown6.out
          rw [show intCells (l.take k) ++ [Value.int .i64 (i : Int)] ++ intCells (l.drop k) = intCells (l.take k ++ [(i : Int)] ++ l.drop k) from by simp [intCells]] at h
          exact h
      case measure => simp [intOf]; omega
    · obtain rfl : i = n := by omega
      have dlt : ¬ (i : Int) < (i : Int) := by omega
      obtain ⟨l, hll, hown⟩ := hrow.out
      have Hown := Lib.hid hown
      clear hrow hown
      go_wp2
      go_ret
      exact ⟨_, l, rfl, hll, by rw [HN.out]; exact Hown.out, hcur.out⟩
end Go.Proofs.YtpebgompfgkljaaGreat
namespace Go.Proofs.YtpebgompfgkljaaGreat
open Go.RowKit

/-- Rows that a call holds to read them. -/
def Lot (N : Nat) (w : World) (v : Value) (L : List (List Int)) : Prop :=
  ∃ hs : List Hd, hs.map Hd.l = L ∧ w.ownsRow N 30 1 v L.length (hdCells hs) ∧ ∀ h ∈ hs, RowIn w N w.heap.size 3 h.a (intCells h.l)
theorem Lot.draw {N g : Nat} {w w' : World} {v : Value} {L : List (List Int)} (h : Lot N w v L) (hg : w.grownBy w' (some g)) (hgN : g < N) : Lot N w' v L := by
  obtain ⟨hs, h1, h2, h3⟩ := h
  exact ⟨hs, h1, own_cur h2 hg hgN, fun x hx => ((h3 x hx).only (Only.of_grown hg) (Or.inr (by omega))).mono (Nat.le_refl _) hg.size⟩
theorem Lot.below {N : Nat} {w w' : World} {v : Value} {L : List (List Int)} (h : Lot N w v L) (hb : Below w.heap.size w w') : Lot N w' v L := by
  obtain ⟨hs, h1, h2, h3⟩ := h
  exact ⟨hs, h1, own_keep h2 hb (fun k hk => (h2.lt k hk).2), fun x hx => ((h3 x hx).below hb).mono (Nat.le_refl _) hb.size⟩
theorem lot_push {N c : Nat} {w w3 : World} {v v3 : Value} {hs : List Hd} {a : Option Addr} {l : List Int} {o : Obj} (h2 : w.ownsRow N 30 1 v hs.length (hdCells hs)) (h3 : ∀ h ∈ hs, RowIn w N w.heap.size 3 h.a (intCells h.l)) (hr : RowIn w N w.heap.size 3 a (intCells l)) (hg : (w.alloc o).grownBy w3 v.ownBlock)
    (hown : w3.ownsRow N 30 1 v3 (hs.length + 1) (hdCells hs ++ [.slice a l.length c])) : Lot N w3 v3 (hs.map Hd.l ++ [l]) := by
  have hal : Below w.heap.size w (w.alloc o) := (Below.refl _ _).alloc (Nat.le_refl _) o
  have hty := own_type (h2.alloc o)
  have hz : w.heap.size ≤ w3.heap.size := Nat.le_trans hal.size hg.size
  refine ⟨hs ++ [⟨a, c, l⟩], by rw [List.map_append]; rfl, by rw [List.length_append, List.length_map, ← hdCells_snoc]; exact hown, fun x hx => ?_⟩
  rcases List.mem_append.1 hx with hx | hx
  · exact (((h3 x hx).below hal).grownOf hg (by decide) hty).mono (Nat.le_refl _) hz
  · rw [List.mem_singleton.1 hx]
    exact ((hr.below hal).grownOf hg (by decide) hty).mono (Nat.le_refl _) hz
theorem Lot.row {N : Nat} {w : World} {v : Value} {L : List (List Int)} (h : Lot N w v L) : ∃ xs, w.ownsRow N 30 1 v L.length xs := by
  obtain ⟨hs, _, h2, _⟩ := h; exact ⟨_, h2⟩
theorem Lot.grid {N : Nat} {w : World} {v : Value} {L : List (List Int)} (h : Lot N w v L) : ∃ a c, v = .slice a L.length c ∧ L.length ≤ c ∧ GridAt w a L := by
  obtain ⟨hs, rfl, h2, h3⟩ := h
  obtain ⟨a, c, rfl, hc, hf⟩ := own_fresh h2 (by rw [hdCells_len]; simp)
  exact ⟨a, c, rfl, hc, hs, rfl, hf.row, fun x hx => (h3 x hx).row⟩

/-- Rows that were drawn: from one to four, of at most ten numbers. -/
def DrawnL (w : World) (g : Nat) (e : Ending) (w' : World) : Prop := ∃ a c L, e = .returned (.slice a (L : List (List Int)).length c) ∧ 1 ≤ L.length ∧ L.length ≤ c ∧ L.length ≤ 5 ∧ (∀ p ∈ L, p.length ≤ 10) ∧ (∃ N, g < N ∧ (∀ w'', w'.grownBy w'' (some g) → GridAt w'' a L)) ∧ CurG w g w'
set_option maxRecDepth 100000 in
set_option maxHeartbeats 4000000 in
theorem l10Draw (g : Nat) (w : World) (hc : CurAt w g) :
    Calls Tryz.prog 97 #[.pointer (some ⟨g, 0, none⟩)] w (DrawnL w g) := by
  obtain ⟨i0, hi0, hz0, hz1, hz2⟩ := info_ints_parts
  have Hi0 := Lib.hid hi0; have Hz0 := Lib.hid hz0; have Hz1 := Lib.hid hz1; have Hz2 := Lib.hid hz2
  have hgw := hc.lt
  have Hcur := Lib.hid (show CurG w g w from ⟨hc, World.grownBy.refl _ _⟩)
  obtain ⟨N, hN⟩ : ∃ N, w.heap.size = N := ⟨_, rfl⟩
  have HN := Lib.hid hN
  rw [hN] at hgw
  clear hi0 hz0 hz1 hz2 hN
  go_enter Tryz.func97, Tryz.ntmps97
  go_wp2_with fail
  refine (l1Below g 5 w hc (by omega) (by omega)).mono ?_
  rintro e w1 ⟨⟨z, rfl, hz0, hz1⟩, hc1, hg1⟩
  obtain ⟨n, hn⟩ : ∃ n : Nat, 1 + z = (n : Int) := ⟨(1 + z).toNat, by omega⟩
  have hn5 : n ≤ 5 := by omega
  have e1 : IntKind.i64.wrap (1 + z) = (n : Int) := by rw [hn]; exact wrap_small (by omega) (by omega)
  have Hcur1 := Lib.hid ((Hcur.out.drawn hc1 hg1).alloc (.cells #[] 30))
  have hN1 : N ≤ w1.heap.size := by have := hg1.size; have := HN.out; omega
  have Hlot1 := Lib.hid (show Lot N (w1.alloc (.cells #[] 30)) (.slice (some ⟨w1.heap.size, 0, none⟩) 0 0) [] from ⟨[], rfl, own_mono (made_rows (N := w1.heap.size) (w := w1) rfl) hN1, fun _ h => by cases h⟩)
  clear hc1 hg1 hc hz0 hz1 hn
  go_wp2_with fail
  refine (l1Below g 3 _ Hcur1.out.1 (by omega) (by omega)).mono ?_
  rintro e w2 ⟨⟨y, rfl, hy0, hy1⟩, hc2, hg2⟩
  obtain ⟨m, hm⟩ : ∃ m : Nat, y + 1 = (m : Int) := ⟨(y + 1).toNat, by omega⟩
  have hm3 : m ≤ 3 := by omega
  have hm1 : 1 ≤ m := by omega
  have e2 : IntKind.i64.wrap (y + 1) = (m : Int) := by rw [hm]; exact wrap_small (by omega) (by omega)
  have Hcur2 := Lib.hid (Hcur1.out.drawn hc2 hg2)
  have Hlot2 := Lib.hid (Hlot1.out.draw hg2 hgw)
  clear hc2 hg2 hy0 hy1 hm
  go_wp2
  go_loopw [4, 5] (fun ov kv wr => ∃ k : Nat, k ≤ m ∧ kv = .int .i64 k ∧ ∃ L : List (List Int), L.length = m - k ∧ Hid (Lot N wr ov L ∧ (∀ p ∈ L, p.length ≤ 10)) ∧ Hid (CurG w g wr)) (fun _ kv _ => (intOf kv).toNat)
  case atStart => exact ⟨m, by omega, rfl, [], by simp, Lib.hid ⟨Hlot2.out, fun p hp => by cases hp⟩, Hcur2⟩
  case round =>
    obtain ⟨k, hk, rfl, L, hLl, hlot, hcur⟩ := hrel
    by_cases hlt : 0 < k
    · obtain ⟨j, rfl⟩ : ∃ j, k = j + 1 := ⟨k - 1, by omega⟩
      have dlt : (0 : Int) < ((j + 1 : Nat) : Int) := by omega
      have e3 : IntKind.i64.wrap (((j + 1 : Nat) : Int) - 1) = (j : Int) := by rw [wrap_small (by omega) (by omega)]; omega
      have e4 : ((j + 1 : Nat) : Int) - 1 = (j : Int) := by omega
      have hP := l9Perm g n wr hcur.out.1 (by omega)
      have HP := Lib.hid hP; have HLl := Lib.hid hLl
      clear hP hLl
      generalize ((j + 1 : Nat) : Int) = z1 at *
      go_wp2_with fail
      refine HP.out.mono ?_
      rintro e w3 ⟨v3, l, rfl, hll, hown3, hcur3⟩
      obtain ⟨ra, rc, he⟩ := own_len hown3
      subst he
      have Hlot3 := Lib.hid (hlot.out.1.draw hcur3.2 hgw)
      have Hcur3 := Lib.hid (hcur.out.drawn hcur3.1 hcur3.2)
      have Hrow3 := Lib.hid (show RowIn w3 wr.heap.size w3.heap.size 3 ra (intCells l) from by
        obtain ⟨a', c', he, _, hf⟩ := own_fresh hown3 (by rw [intCells_len]; exact hll)
        cases he
        exact RowIn.of_fresh hf)
      have hNr : N ≤ wr.heap.size := by have := hcur.out.size; have := HN.out; omega
      have hN3 : N ≤ w3.heap.size := by have := Hcur3.out.size; have := HN.out; omega
      have Hll := Lib.hid hll
      have a1 : L.length + 1 ≤ maxLen := by have := HLl.out; unfold maxLen; omega
      have a2 : (L.length + 1) * 24 ≤ 140737488355328 := by have := HLl.out; omega
      obtain ⟨hs, q1, q2, q3⟩ := Hlot3.out
      have hhl : hs.length = L.length := by rw [← q1]; simp
      rw [← hhl] at q2 a1 a2
      have Hq1 := Lib.hid q1; have Hq2 := Lib.hid q2; have Hq3 := Lib.hid q3; have Hhl := Lib.hid hhl
      have Hbl := Lib.hid (fun (q : Nat) (hq : q ∈ ([] : List Nat)) => hq)
      have Hlow := Lib.hid q2.lt
      have Hp10 := Lib.hid hlot.out.2
      clear hll hown3 hcur3 q1 q2 q3 hhl hlot
      go_wp2_with (at_builtin; refine append_one rfl (.tmp 19) (.tmp 23) 24 rfl N 30 i0 _ 24 Tryz.underlying24 Hi0.out Hz0.out Hz1.out Hz2.out (by rfl) _ hs.length (hdCells hs) rfl Hq2.out (by rfl) _ rfl a1 a2 hN3 ?_; intro v5 w5 hown5 hg5 _)
      go_roundw
      case rel =>
        have hl5 : Lot N w5 v5 (L ++ [l]) := by
          rw [← Hq1.out]
          exact lot_push Hq2.out Hq3.out (Hrow3.out.mono hNr (Nat.le_refl _)) hg5 (by rw [Hll.out]; exact hown5)
        refine ⟨j, by omega, rfl, L ++ [l], by rw [List.length_append, HLl.out, List.length_singleton]; omega, Lib.hid ⟨hl5, fun p hp => ?_⟩, Lib.hid ?_⟩
        · rcases List.mem_append.1 hp with hp | hp
          · exact Hp10.out p hp
          · rw [List.mem_singleton.1 hp, Hll.out]; omega
        · exact (Hcur3.out.alloc _).row hg5 (by rw [HN.out]; exact hgw) (fun q hq => by rw [HN.out]; exact (Hlow.out q hq).1)
      case measure => simp [intOf]; omega
    · obtain rfl : k = 0 := by omega
      have dlt : ¬ (0 : Int) < ((0 : Nat) : Int) := by omega
      obtain ⟨la, lc, rfl, hlc, hgrid⟩ := hlot.out.1.grid
      have hC := spec_CloseUp la lc L wr hgrid (fun p hp => by have := hlot.out.2 p hp; omega) (by omega)
      have HC := Lib.hid hC; have Hlot := Lib.hid hlot.out.1; have Hp := Lib.hid hlot.out.2; have HLl := Lib.hid hLl
      have hNr : N ≤ wr.heap.size := by have := hcur.out.size; have := HN.out; omega
      clear hC hlot hgrid hLl
      go_wp2_with fail
      refine HC.out.mono ?_
      rintro e w3 ⟨ga, gc, rfl, hgc, hgm, hg3, hb3⟩
      have Hlot3 := Lib.hid (Hlot.out.below hb3); have Hcur3 := Lib.hid (hcur.out.below hb3); have Hg3 := Lib.hid hg3; have Hgc := Lib.hid hgc
      clear hg3 hb3 hgc
      by_cases hok : Br.CloseOk L
      · rw [decide_eq_true hok]
        have hX : Br.closed L = L ++ [Br.last L] := if_pos hok
        have hXl : (Br.closed L).length = L.length + 1 := by rw [hX]; simp
        have HXp := Lib.hid (show ∀ p ∈ Br.closed L, p.length ≤ 10 from fun p hp => by have := (Br.closed_few L).2 p hp; omega)
        have Hok4 := Lib.hid hok.1
        have HXl := Lib.hid hXl
        clear hok hX hXl
        generalize Br.closed L = X at *
        go_wp2_with fail
        refine (l1Once g 8 w3 Hcur3.out.1 (by omega) (by omega)).mono ?_
        rintro e w4 ⟨⟨b, rfl⟩, hc4, hg4⟩
        have Hlot4 := Lib.hid (Hlot3.out.draw hg4 hgw); have Hcur4 := Lib.hid (Hcur3.out.drawn hc4 hg4)
        have Hg4 := Lib.hid (Hg3.out.only (Only.of_grown hg4) (Or.inr (show g + 1 ≤ wr.heap.size by omega)))
        clear hc4 hg4
        cases b with
        | true =>
          go_wp2
          go_ret
          refine ⟨la, lc, L, rfl, by rw [HLl.out]; omega, hlc, by have := Hok4.out; omega, Hp.out, ⟨N, hgw, fun w'' h => ?_⟩, Hcur4.out⟩
          obtain ⟨a', c', he, _, hg⟩ := (Hlot4.out.draw h hgw).grid
          cases he; exact hg
        | false =>
          go_wp2
          go_ret
          refine ⟨ga, gc, X, rfl, by rw [HXl.out]; omega, Hgc.out, by rw [HXl.out]; have := Hok4.out; omega, HXp.out, ⟨N, hgw, fun w'' h => ?_⟩, Hcur4.out⟩
          exact (Hg4.out.only (Only.of_grown h) (Or.inr (show g + 1 ≤ wr.heap.size by omega))).grid
      · rw [decide_eq_false hok]
        clear hok
        generalize Br.closed L = X at *
        go_wp2
        go_ret
        refine ⟨la, lc, L, rfl, by rw [HLl.out]; omega, hlc, by rw [HLl.out]; omega, Hp.out, ⟨N, hgw, fun w'' h => ?_⟩, Hcur3.out⟩
        obtain ⟨a', c', he, _, hg⟩ := (Hlot3.out.draw h hgw).grid
        cases he; exact hg
end Go.Proofs.YtpebgompfgkljaaGreat
namespace Go.Proofs.YtpebgompfgkljaaGreat
open Go.RowKit

def DrawnG (w : World) (e : Ending) (w' : World) : Prop := ∃ a c L, e = .returned (.slice a (L : List (List Int)).length c) ∧ GridAt w' a L ∧ 1 ≤ L.length ∧ L.length ≤ 5 ∧ (∀ p ∈ L, p.length ≤ 10) ∧ Below w.heap.size w w'
def DrawnG1 (w : World) (e : Ending) (w' : World) : Prop := ∃ a c L x, e = .returned (.tuple #[.slice a (L : List (List Int)).length c, .int .i64 x]) ∧ GridAt w' a L ∧ 1 ≤ L.length ∧ L.length ≤ 5 ∧ (∀ p ∈ L, p.length ≤ 10) ∧ -10 ≤ x ∧ x ≤ 10 ∧ Below w.heap.size w w'
set_option maxRecDepth 10000 in
set_option maxHeartbeats 2000000 in
theorem drawBranchCover (a : Option Addr) (c : Nat) (l : List Int) (w : World) (ha : RowAt w a (byteCells l)) (hb : ∀ x ∈ l, 0 ≤ x ∧ x ≤ 255) (hsz : l.length ≤ 1048576) :
    Calls Tryz.prog 30 #[.slice a l.length c] w (DrawnG w) := by
  go_enter Tryz.func30, Tryz.ntmps30
  go_wp2_with fail
  refine (l1New a c l w ha hb hsz).mono ?_
  rintro e w1 ⟨g, rfl, hgl, hc, hb1⟩
  have Hb1 := Lib.hid hb1
  go_wp2_with fail
  refine (l10Draw g w1 hc).mono ?_
  rintro e w2 ⟨ra, rc, L, rfl, h1, h2, h5, hp, ⟨N, hgN, hg⟩, hcur⟩
  have Hg := Lib.hid (hg w2 (World.grownBy.refl _ _)); have Hbb := Lib.hid (belowM Hb1.out hcur.2 hgl); have Hp := Lib.hid hp
  clear hg hcur hc hb1 hp
  go_wp2
  go_ret
  exact ⟨ra, rc, L, rfl, Hg.out, h1, h5, Hp.out, Hbb.out⟩
set_option maxRecDepth 10000 in
set_option maxHeartbeats 2000000 in
theorem drawCloseUp (a : Option Addr) (c : Nat) (l : List Int) (w : World) (ha : RowAt w a (byteCells l)) (hb : ∀ x ∈ l, 0 ≤ x ∧ x ≤ 255) (hsz : l.length ≤ 1048576) :
    Calls Tryz.prog 33 #[.slice a l.length c] w (DrawnG w) := by
  go_enter Tryz.func33, Tryz.ntmps33
  go_wp2_with fail
  refine (l1New a c l w ha hb hsz).mono ?_
  rintro e w1 ⟨g, rfl, hgl, hc, hb1⟩
  have Hb1 := Lib.hid hb1
  go_wp2_with fail
  refine (l10Draw g w1 hc).mono ?_
  rintro e w2 ⟨ra, rc, L, rfl, h1, h2, h5, hp, ⟨N, hgN, hg⟩, hcur⟩
  have Hg := Lib.hid hg; have Hcur := Lib.hid hcur; have Hp := Lib.hid hp
  clear hg hcur hc hb1 hp
  go_wp2_with fail
  refine (l1Once g 2 w2 Hcur.out.1 (by omega) (by omega)).mono ?_
  rintro e w3 ⟨⟨b, rfl⟩, hc3, hg3⟩
  have Hg3 := Lib.hid (Hg.out w3 hg3); have Hbb := Lib.hid (belowM Hb1.out (Hcur.out.2.trans hg3) hgl)
  clear hc3 hg3
  cases b with
  | true =>
    have k1 : (1 : Int) ≤ (rc : Int) := by omega
    have k2 : (1 : Int) ≤ (L.length : Int) := by omega
    have k3 : 1 ≤ rc := by omega
    go_wp2
    go_ret
    obtain ⟨r, hr⟩ := get_some (show 0 < L.length by omega)
    have hs : L.take 1 = [r] := by
      cases L with
      | nil => cases hr
      | cons x L => simp at hr; simp [hr]
    refine ⟨ra, rc, [r], rfl, ?_, by simp, by simp, fun p hp => ?_, Hbb.out⟩
    · obtain ⟨hs', q1, q2, q3⟩ := Hg3.out
      refine ⟨hs'.take 1, by rw [List.map_take, q1, hs], ?_, fun x hx => q3 x (List.mem_of_mem_take hx)⟩
      rcases q2 with e | ⟨b, o, e, hlt, hc⟩
      · left
        have : hs' = [] := by simpa [hdCells] using e
        rw [this]; rfl
      · refine Or.inr ⟨b, o, e, hlt, fun i v hv => hc i v ?_⟩
        rw [show hdCells (hs'.take 1) = (hdCells hs').take 1 from by simp [hdCells, List.map_take], List.getElem?_take] at hv
        split at hv
        · exact hv
        · cases hv
    · rw [List.mem_singleton.1 hp]; exact Hp.out r (get_mem hr)
  | false =>
    go_wp2
    go_ret
    exact ⟨ra, rc, L, rfl, Hg3.out, h1, h5, Hp.out, Hbb.out⟩
set_option maxRecDepth 10000 in
set_option maxHeartbeats 2000000 in
theorem drawBraidPassport (a : Option Addr) (c : Nat) (l : List Int) (w : World) (ha : RowAt w a (byteCells l)) (hb : ∀ x ∈ l, 0 ≤ x ∧ x ≤ 255) (hsz : l.length ≤ 1048576) :
    Calls Tryz.prog 36 #[.slice a l.length c] w (DrawnG1 w) := by
  go_enter Tryz.func36, Tryz.ntmps36
  go_wp2_with fail
  refine (l1New a c l w ha hb hsz).mono ?_
  rintro e w1 ⟨g, rfl, hgl, hc, hb1⟩
  have Hb1 := Lib.hid hb1
  go_wp2_with fail
  refine (l10Draw g w1 hc).mono ?_
  rintro e w2 ⟨ra, rc, L, rfl, h1, h2, h5, hp, ⟨N, hgN, hg⟩, hcur⟩
  have Hg := Lib.hid hg; have Hcur := Lib.hid hcur; have Hp := Lib.hid hp
  clear hg hcur hc hb1 hp
  go_wp2_with fail
  refine (l1Below g (L.length : Int) w2 Hcur.out.1 (by omega) (by omega)).mono ?_
  rintro e w3 ⟨⟨x, rfl, hx0, hx1⟩, hc3, hg3⟩
  have Hcur3 := Lib.hid (Hcur.out.drawn hc3 hg3); have Hg3 := Lib.hid hg3
  clear hc3 hg3
  go_wp2_with fail
  refine (l1Once g 12 w3 Hcur3.out.1 (by omega) (by omega)).mono ?_
  rintro e w4 ⟨⟨b, rfl⟩, hc4, hg4⟩
  have Hg4 := Lib.hid (Hg.out w4 (Hg3.out.trans hg4)); have Hbb := Lib.hid (belowM Hb1.out (Hcur3.out.2.trans hg4) hgl)
  clear hc4 hg4
  go_wp2_with fail
  refine (case_l1Bit b _).mono ?_
  rintro e w5 ⟨⟨n1, hn1, rfl⟩, hw5⟩
  rw [hw5]; clear hw5
  have hwx : IntKind.i64.wrap (x - (n1 : Int)) = x - (n1 : Int) := wrap_small (by omega) (by omega)
  have hbx : -10 ≤ x - (n1 : Int) ∧ x - (n1 : Int) ≤ 10 := by omega
  go_wp2
  go_ret2
  exact ⟨ra, rc, L, x - (n1 : Int), by first | rfl | simp [*], Hg4.out, h1, h5, Hp.out, hbx.1, hbx.2, Hbb.out⟩
set_option maxRecDepth 10000 in
set_option maxHeartbeats 2000000 in
theorem drawMapPassport (a : Option Addr) (c : Nat) (l : List Int) (w : World) (ha : RowAt w a (byteCells l)) (hb : ∀ x ∈ l, 0 ≤ x ∧ x ≤ 255) (hsz : l.length ≤ 1048576) :
    Calls Tryz.prog 39 #[.slice a l.length c] w (DrawnM w) := by
  go_enter Tryz.func39, Tryz.ntmps39
  go_wp2_with fail
  refine (l1New a c l w ha hb hsz).mono ?_
  rintro e w1 ⟨g, rfl, hgl, hc, hb1⟩
  have Hb1 := Lib.hid hb1
  go_wp2_with fail
  refine (l1Once g 3 w1 hc (by omega) (by omega)).mono ?_
  rintro e w2 ⟨⟨b, rfl⟩, hc2, hg2⟩
  have hz2 := hg2.size
  have Hb2 := Lib.hid (belowM Hb1.out hg2 hgl); have Hc2 := Lib.hid hc2
  clear hc2 hg2 hc hb1
  cases b with
  | true =>
    go_wp2_with fail
    refine (l6Bent g w2 Hc2.out).mono ?_
    rintro e w3 ⟨v, r, rfl, ho, h2, h13, hc3, hg3⟩
    obtain ⟨ra, rc, he⟩ := own_len ho
    subst he
    have Hr := Lib.hid (ownM_row ho); have Hbb := Lib.hid (belowM Hb2.out hg3 hgl)
    clear ho hc3 hg3
    go_wp2
    go_ret
    exact ⟨ra, rc, r, rfl, Hr.out, by omega, Hbb.out⟩
  | false =>
    go_wp2_with fail
    refine (l6DrawM g 2 w2 Hc2.out (by omega) (by omega)).mono ?_
    rintro e w3 ⟨v, r, rfl, ho, h2, h13, hc3, hg3⟩
    obtain ⟨ra, rc, he⟩ := own_len ho
    subst he
    have Hr := Lib.hid (ownM_row ho); have Hbb := Lib.hid (belowM Hb2.out hg3 hgl)
    clear ho hc3 hg3
    go_wp2
    go_ret
    exact ⟨ra, rc, r, rfl, Hr.out, by omega, Hbb.out⟩
end Go.Proofs.YtpebgompfgkljaaGreat
