/-
  The walks of the model's draws of permutations, passports, braids and maps' passports. The walks of the model's draws of passports, braids and maps' passports. The walks of the model's draws of actions. The walk of the model's l9Draw. What the law of coverings does with rows: sums, surfaces compared; what it draws.
-/
import Derived.Test.YtamgimdjnmcpaaaGreatBase
import Derived.Test.YtamgimdjnmcpaaaGreatSlice
import Derived.Test.YtamgimdjnmcpaaaGreatIntRow
import Derived.Test.YtamgimdjnmcpaaaGreatInts
import Derived.Test.YtamgimdjnmcpaaaGreatOwn
import Derived.Test.YtamgimdjnmcpaaaGreatAppend
import Derived.Test.YtamgimdjnmcpaaaGreatGridRows
import Derived.Test.YtamgimdjnmcpaaaGreatWord
import Derived.Test.YtamgimdjnmcpaaaGreatGrid
import Derived.Test.YtamgimdjnmcpaaaGreatGridWalk
import Derived.Test.YtamgimdjnmcpaaaGreatDraw
import Derived.Test.YtamgimdjnmcpaaaGreatDrawWord
import Derived.Test.YtamgimdjnmcpaaaGreatCurG
import Derived.Test.YtamgimdjnmcpaaaGreatDrawMap
import Derived.Test.YtamgimdjnmcpaaaGreatMoveA
import Derived.Test.YtamgimdjnmcpaaaGreatCovD
import Derived.Test.YtamgimdjnmcpaaaGreatCov
import Derived.Test.YtamgimdjnmcpaaaGreatBrA
import Derived.Deep.QuietTactic
import Derived.BigQuiet
import Derived.StillTailTactics
import Derived.Deep.CutBlock
import Derived.Test.YtamgimdjnmcpaaaGreatSurf
import Derived.Test.YtamgimdjnmcpaaaGreatCovV
import Derived.Deep.RegionHeld3
namespace Go.Proofs.YtamgimdjnmcpaaaGreat
open Go.RowKit

/-- A row of its own in a new block stays apart from another row's block. -/
theorem rest_apart {w w' : World} {g n k cap : Nat} {e : TypeId} {v : Value} {xs : List Value} (h : w'.ownsRow w.heap.size e 1 v n xs) (hg : g < w.heap.size) : v.ownBlock = none ∨ v.ownBlock ≠ (Value.slice (some ⟨g, 0, none⟩) k cap).ownBlock := by
  cases hq : v.ownBlock with
  | none => exact Or.inl rfl
  | some q =>
    right
    intro e
    have h1 := (h.lt q hq).1
    have h2 : q = g := by have := Option.some.inj (e : some q = some g); exact this
    omega
theorem block_new {v : Value} {g B M : Nat} (h : v.ownBlock = some g ∨ v.ownBlock = some M) (hM : B ≤ M) : ∀ q, v.ownBlock = some q → q = g ∨ B ≤ q := fun q hq => by
  rcases h with e | e
  · left; rw [e] at hq; exact (Option.some.inj hq).symm
  · right; rw [e] at hq; have := Option.some.inj hq; omega
theorem grown_two {w w1 w2 : World} {g : Nat} {v : Value} (h : w.grownBy w1 (some g)) (h' : w1.grownBy w2 v.ownBlock) (hv : ∀ q, v.ownBlock = some q → q = g ∨ w.heap.size ≤ q) : w.grownBy w2 (some g) :=
  ⟨h'.os.trans h.os, h'.tape.trans h.tape, h'.output.trans h.output, Nat.le_trans h.size h'.size, fun q hq hne => by
    refine (h'.block q (Nat.lt_of_lt_of_le hq h.size) (fun e => ?_)).trans (h.block q hq hne)
    rcases hv q e.symm with h | h
    · exact hne (by rw [h])
    · omega⟩
/-- A row of a call's own that was drawn. -/
def DrawnP (w : World) (g n : Nat) (e : Ending) (w' : World) : Prop := ∃ v l, e = .returned v ∧ (l : List Int).length = n ∧ w'.ownsRow w.heap.size 3 1 v n (intCells l) ∧ CurG w g w'
set_option maxRecDepth 100000 in
set_option maxHeartbeats 4000000 in
theorem l9Perm (g n : Nat) (w : World) (hc : CurAt w g) (hn : n ≤ 10) :
    Calls Tryz.prog 76 #[.pointer (some ⟨g, 0, none⟩), .int .i64 (n : Int)] w (DrawnP w g n) := by
  obtain ⟨i0, hi0, hz0, hz1, hz2⟩ := info_int_parts
  have Hi0 := Lib.hid hi0; have Hz0 := Lib.hid hz0; have Hz1 := Lib.hid hz1; have Hz2 := Lib.hid hz2
  have hgw := hc.lt
  have Hcur0 := Lib.hid ((show CurG w g w from ⟨hc, World.grownBy.refl _ _⟩).alloc (.cells #[] 3))
  have Hm0 := Lib.hid (own_made (w := w) rfl)
  obtain ⟨N, hN⟩ : ∃ N, w.heap.size = N := ⟨_, rfl⟩
  have HN := Lib.hid hN
  rw [hN] at Hm0 hgw
  clear hi0 hz0 hz1 hz2 hc hN
  go_enter Tryz.func76, Tryz.ntmps76
  go_wp2
  go_loopw [5, 6, 7, 8] (fun ov kv _ _ wr => ∃ i : Nat, i ≤ n ∧ kv = .int .i64 i ∧ ∃ G cap, ov = .slice (some ⟨G, 0, none⟩) i cap ∧ Hid (∃ l : List Int, l.length = i ∧ wr.ownsRow N 3 1 (.slice (some ⟨G, 0, none⟩) i cap) i (intCells l)) ∧ Hid (CurG w g wr)) (fun _ kv _ _ _ => n - (intOf kv).toNat)
  case atStart => exact ⟨0, by omega, rfl, N, 0, by rw [HN.out], Lib.hid ⟨[], rfl, Hm0.out⟩, Hcur0⟩
  case round =>
    obtain ⟨i, hi, rfl, G, cap, rfl, hrow, hcur⟩ := hrel
    by_cases hlt : i < n
    · obtain ⟨l, hll, hown⟩ := hrow.out
      have Hown := Lib.hid hown; have Hll := Lib.hid hll
      have e1 : IntKind.i64.wrap ((i : Int) + 1) = (i : Int) + 1 := wrap_small (by omega) (by omega)
      have hcap : i ≤ cap := by
        obtain ⟨a, c, e, hc, _⟩ := own_fresh hown (by rw [intCells_len]; exact hll)
        cases e; exact hc
      have hGN : N ≤ G := (hown.lt G rfl).1
      have dlt : (i : Int) < (n : Int) := by omega
      clear hrow hll hown
      go_wp2_with fail
      refine (l1Below g ((i : Int) + 1) wr hcur.out.1 (by omega) (by omega)).mono ?_
      rintro e w3 ⟨⟨z, rfl, hz0, hz1⟩, hc3, hg3⟩
      obtain ⟨k, rfl⟩ : ∃ k : Nat, z = (k : Int) := ⟨z.toNat, by omega⟩
      have hk : k ≤ i := by omega
      have Hown3 := Lib.hid (own_cur Hown.out hg3 hgw)
      have Hcur3 := Lib.hid (hcur.out.drawn hc3 hg3)
      have hN3 : N ≤ w3.heap.size := by have := Hcur3.out.size; have := HN.out; omega
      have Hrow := Lib.hid (show RowAt w3 (some ⟨G, 0, none⟩) (intCells l) from by
        obtain ⟨a, c, e, hr⟩ := own_row Hown3.out (by rw [intCells_len]; exact Hll.out)
        cases e; exact hr)
      obtain ⟨A2, hA2⟩ : ∃ A2, (if cap = k then (some ⟨G, 0, none⟩ : Option Addr) else some ⟨G, 0 + k, none⟩) = A2 := ⟨_, rfl⟩
      have hrA := Cv.row_cut (c := cap) (m := k) Hrow.out (by rw [Hll.out]; exact hk) (by rw [Hll.out]; exact hcap)
      rw [hA2] at hrA
      rw [Nat.zero_add] at hA2
      have HrA := Lib.hid hrA
      have hal : Below w3.heap.size w3 (w3.alloc (.cells #[] 3)) := (Below.refl _ _).alloc (Nat.le_refl _) _
      have Hmk := Lib.hid (own_made (w := w3) rfl)
      have HrM := Lib.hid (HrA.out.below hal)
      have Hal := Lib.hid hal
      have Hl2 := Lib.hid (show (intCells (l.drop k)).length = i - k by rw [intCells_len, List.length_drop, Hll.out])
      have Htk := Lib.hid (show (intCells l).take k = intCells (l.take k) from intCells_take l k)
      have a7 : 0 + (i - k) ≤ maxLen := by unfold maxLen; omega
      have a8 : (0 + (i - k)) * 8 ≤ 140737488355328 := by omega
      have a3 : k + 1 ≤ maxLen := by unfold maxLen; omega
      have a4 : (k + 1) * 8 ≤ 140737488355328 := by omega
      have a5 : k + 1 + (i - k) ≤ maxLen := by unfold maxLen; omega
      have a6 : (k + 1 + (i - k)) * 8 ≤ 140737488355328 := by omega
      have hkc : (k : Int) ≤ (cap : Int) := by omega
      have hkl : (k : Int) ≤ (i : Int) := by omega
      have hk0 : (0 : Int) ≤ (k : Int) := by omega
      have hkc' : k ≤ cap := by omega
      clear hal hrA hc3 hg3 hz0 hz1 hcur
      go_wp2_with (first
        | (at_builtin; refine append_row rfl (.tmp 20) (.tmp 23) 30 rfl w3.heap.size 3 i0 _ 8 Tryz.underlying30 Hi0.out Hz0.out Hz1.out Hz2.out (by rfl) _ 0 (intCells []) rfl Hmk.out A2 (i - k) _ (intCells (l.drop k)) rfl HrM.out Hl2.out (intCells_one _) a7 a8 Hal.out.size ?_; intro v2 w4 hown2 hg2; rw [Nat.zero_add] at hown2; have hb2 := Below.grown Hal.out hg2 Hal.out.size (fun k hk => (Hmk.out.lt k hk).1); obtain ⟨ra, rc, rfl, hrr⟩ := own_row hown2 Hl2.out; have hl' := own_take (own_keep Hown3.out hb2 (fun k hk => (Hown3.out.lt k hk).2)) hk; rw [Htk.out] at hl'; have Hb2 := Lib.hid hb2; have Hrest := Lib.hid (show w4.ownsRow w3.heap.size 3 1 (.slice ra (i - k) rc) (i - k) (intCells (l.drop k)) from hown2); have Hl' := Lib.hid hl'; have hN2 : N ≤ w4.heap.size := Nat.le_trans hN3 hb2.size; clear hown2 hg2 hb2 hrr hl')
        | (at_builtin; refine append_one_new rfl (.tmp 27) (.tmp 29) 30 rfl N 3 i0 _ 8 Tryz.underlying30 Hi0.out Hz0.out Hz1.out Hz2.out (by rfl) _ _ _ rfl Hl'.out (by rfl) _ rfl a3 a4 hN2 ?_; intro v3 w5 hown3 hg3 hn3; have hg3' : (w4.alloc (.cells #[.int .i64 (i : Int)] 3)).grownBy w5 (Value.slice (some ⟨G, 0, none⟩) k cap).ownBlock := hg3; have hGlt := (Hown3.out.lt G rfl).2; have hrest3 := (Hrest.out.alloc (.cells #[.int .i64 (i : Int)] 3)).kept hg3' (rest_apart Hrest.out hGlt); obtain ⟨ra', rc', e3, hrr3⟩ := own_row hrest3 Hl2.out; cases e3; have hG3 : w3.grownBy w5 (some G) := grown_trans (only_of_below (Hb2.out.alloc Hb2.out.size _) (some G)) hg3'; have hn3'' := block_new (B := w3.heap.size) hn3 (by have := Hb2.out.size; simp; omega); have Hrr3 := Lib.hid hrr3; have Hown5 := Lib.hid hown3; have HG3 := Lib.hid hG3; have Hn3 := Lib.hid hn3''; have hN5 : N ≤ w5.heap.size := Nat.le_trans hN3 hG3.size; clear hown3 hg3 hg3' hrest3 hrr3 hG3 hn3 hn3'' hGlt)
        | (at_builtin; refine append_row_new rfl (.tmp 30) (.tmp 31) 30 rfl N 3 i0 _ 8 Tryz.underlying30 Hi0.out Hz0.out Hz1.out Hz2.out (by rfl) _ _ _ rfl Hown5.out ra (i - k) _ (intCells (l.drop k)) rfl Hrr3.out Hl2.out (intCells_one _) a5 a6 hN5 ?_; intro v4 w6 hown4 hg4 hn4; have hG4 := grown_two HG3.out hg4 Hn3.out; rw [show k + 1 + (i - k) = i + 1 by omega] at hown4; obtain ⟨G', cap', rfl, _, _⟩ := own_form hown4 (by omega); have Hown6 := Lib.hid hown4; have HG4 := Lib.hid hG4; clear hown4 hg4 hG4 hn4))
      go_roundw
      case rel =>
        refine ⟨i + 1, by omega, by go_num, G', cap', rfl, Lib.hid ⟨l.take k ++ [(i : Int)] ++ l.drop k, ?_, ?_⟩, Lib.hid (Hcur3.out.row HG4.out (by rw [HN.out]; exact hgw) (fun q hq => by cases hq; rw [HN.out]; exact hGN))⟩
        · rw [List.length_append, List.length_append, List.length_take, List.length_drop, Hll.out]; simp; omega
        · have h := Hown6.out
          rw [show intCells (l.take k) ++ [Value.int .i64 (i : Int)] ++ intCells (l.drop k) = intCells (l.take k ++ [(i : Int)] ++ l.drop k) from by simp [intCells]] at h
          exact h
      case measure => simp [intOf]; omega
    · obtain rfl : i = n := by omega
      have dlt : ¬ (i : Int) < (i : Int) := by omega
      obtain ⟨l, hll, hown⟩ := hrow.out
      have Hown := Lib.hid hown
      clear hrow hown
      go_wp2
      go_ret
      exact ⟨_, l, rfl, hll, by rw [HN.out]; exact Hown.out, hcur.out⟩
end Go.Proofs.YtamgimdjnmcpaaaGreat
namespace Go.Proofs.YtamgimdjnmcpaaaGreat
open Go.RowKit

/-- Rows that a call holds to read them. -/
def Lot (N : Nat) (w : World) (v : Value) (L : List (List Int)) : Prop :=
  ∃ hs : List Hd, hs.map Hd.l = L ∧ w.ownsRow N 30 1 v L.length (hdCells hs) ∧ ∀ h ∈ hs, RowIn w N w.heap.size 3 h.a (intCells h.l)
theorem Lot.draw {N g : Nat} {w w' : World} {v : Value} {L : List (List Int)} (h : Lot N w v L) (hg : w.grownBy w' (some g)) (hgN : g < N) : Lot N w' v L := by
  obtain ⟨hs, h1, h2, h3⟩ := h
  exact ⟨hs, h1, own_cur h2 hg hgN, fun x hx => ((h3 x hx).only (Only.of_grown hg) (Or.inr (by omega))).mono (Nat.le_refl _) hg.size⟩
theorem Lot.below {N : Nat} {w w' : World} {v : Value} {L : List (List Int)} (h : Lot N w v L) (hb : Below w.heap.size w w') : Lot N w' v L := by
  obtain ⟨hs, h1, h2, h3⟩ := h
  exact ⟨hs, h1, own_keep h2 hb (fun k hk => (h2.lt k hk).2), fun x hx => ((h3 x hx).below hb).mono (Nat.le_refl _) hb.size⟩
theorem lot_push {N c : Nat} {w w3 : World} {v v3 : Value} {hs : List Hd} {a : Option Addr} {l : List Int} {o : Obj} (h2 : w.ownsRow N 30 1 v hs.length (hdCells hs)) (h3 : ∀ h ∈ hs, RowIn w N w.heap.size 3 h.a (intCells h.l)) (hr : RowIn w N w.heap.size 3 a (intCells l)) (hg : (w.alloc o).grownBy w3 v.ownBlock)
    (hown : w3.ownsRow N 30 1 v3 (hs.length + 1) (hdCells hs ++ [.slice a l.length c])) : Lot N w3 v3 (hs.map Hd.l ++ [l]) := by
  have hal : Below w.heap.size w (w.alloc o) := (Below.refl _ _).alloc (Nat.le_refl _) o
  have hty := own_type (h2.alloc o)
  have hz : w.heap.size ≤ w3.heap.size := Nat.le_trans hal.size hg.size
  refine ⟨hs ++ [⟨a, c, l⟩], by rw [List.map_append]; rfl, by rw [List.length_append, List.length_map, ← hdCells_snoc]; exact hown, fun x hx => ?_⟩
  rcases List.mem_append.1 hx with hx | hx
  · exact (((h3 x hx).below hal).grownOf hg (by decide) hty).mono (Nat.le_refl _) hz
  · rw [List.mem_singleton.1 hx]
    exact ((hr.below hal).grownOf hg (by decide) hty).mono (Nat.le_refl _) hz
theorem Lot.row {N : Nat} {w : World} {v : Value} {L : List (List Int)} (h : Lot N w v L) : ∃ xs, w.ownsRow N 30 1 v L.length xs := by
  obtain ⟨hs, _, h2, _⟩ := h; exact ⟨_, h2⟩
theorem Lot.grid {N : Nat} {w : World} {v : Value} {L : List (List Int)} (h : Lot N w v L) : ∃ a c, v = .slice a L.length c ∧ L.length ≤ c ∧ GridAt w a L := by
  obtain ⟨hs, rfl, h2, h3⟩ := h
  obtain ⟨a, c, rfl, hc, hf⟩ := own_fresh h2 (by rw [hdCells_len]; simp)
  exact ⟨a, c, rfl, hc, hs, rfl, hf.row, fun x hx => (h3 x hx).row⟩

end Go.Proofs.YtamgimdjnmcpaaaGreat
namespace Go.Proofs.YtamgimdjnmcpaaaGreat
open Go.RowKit

/-- A row of a call's own that was drawn. -/
def DrawnQ (w : World) (g n : Nat) (e : Ending) (w' : World) : Prop := ∃ v l, e = .returned v ∧ (l : List Int).length = n ∧ (∀ x ∈ l, 0 ≤ x ∧ x < (n : Int)) ∧ w'.ownsRow w.heap.size 3 1 v n (intCells l) ∧ CurG w g w'
set_option maxRecDepth 100000 in
set_option maxHeartbeats 4000000 in
theorem l9PermQ (g n : Nat) (w : World) (hc : CurAt w g) (hn : n ≤ 10) :
    Calls Tryz.prog 76 #[.pointer (some ⟨g, 0, none⟩), .int .i64 (n : Int)] w (DrawnQ w g n) := by
  obtain ⟨i0, hi0, hz0, hz1, hz2⟩ := info_int_parts
  have Hi0 := Lib.hid hi0; have Hz0 := Lib.hid hz0; have Hz1 := Lib.hid hz1; have Hz2 := Lib.hid hz2
  have hgw := hc.lt
  have Hcur0 := Lib.hid ((show CurG w g w from ⟨hc, World.grownBy.refl _ _⟩).alloc (.cells #[] 3))
  have Hm0 := Lib.hid (own_made (w := w) rfl)
  obtain ⟨N, hN⟩ : ∃ N, w.heap.size = N := ⟨_, rfl⟩
  have HN := Lib.hid hN
  rw [hN] at Hm0 hgw
  clear hi0 hz0 hz1 hz2 hc hN
  go_enter Tryz.func76, Tryz.ntmps76
  go_wp2
  go_loopw [5, 6, 7, 8] (fun ov kv _ _ wr => ∃ i : Nat, i ≤ n ∧ kv = .int .i64 i ∧ ∃ G cap, ov = .slice (some ⟨G, 0, none⟩) i cap ∧ Hid (∃ l : List Int, (l.length = i ∧ ∀ x ∈ l, 0 ≤ x ∧ x < (i : Int)) ∧ wr.ownsRow N 3 1 (.slice (some ⟨G, 0, none⟩) i cap) i (intCells l)) ∧ Hid (CurG w g wr)) (fun _ kv _ _ _ => n - (intOf kv).toNat)
  case atStart => exact ⟨0, by omega, rfl, N, 0, by rw [HN.out], Lib.hid ⟨[], ⟨rfl, fun x hx => by cases hx⟩, Hm0.out⟩, Hcur0⟩
  case round =>
    obtain ⟨i, hi, rfl, G, cap, rfl, hrow, hcur⟩ := hrel
    by_cases hlt : i < n
    · obtain ⟨l, ⟨hll, hlx⟩, hown⟩ := hrow.out
      have Hown := Lib.hid hown; have Hll := Lib.hid hll; have Hlx := Lib.hid hlx
      have e1 : IntKind.i64.wrap ((i : Int) + 1) = (i : Int) + 1 := wrap_small (by omega) (by omega)
      have hcap : i ≤ cap := by
        obtain ⟨a, c, e, hc, _⟩ := own_fresh hown (by rw [intCells_len]; exact hll)
        cases e; exact hc
      have hGN : N ≤ G := (hown.lt G rfl).1
      have dlt : (i : Int) < (n : Int) := by omega
      clear hrow hll hlx hown
      go_wp2_with fail
      refine (l1Below g ((i : Int) + 1) wr hcur.out.1 (by omega) (by omega)).mono ?_
      rintro e w3 ⟨⟨z, rfl, hz0, hz1⟩, hc3, hg3⟩
      obtain ⟨k, rfl⟩ : ∃ k : Nat, z = (k : Int) := ⟨z.toNat, by omega⟩
      have hk : k ≤ i := by omega
      have Hown3 := Lib.hid (own_cur Hown.out hg3 hgw)
      have Hcur3 := Lib.hid (hcur.out.drawn hc3 hg3)
      have hN3 : N ≤ w3.heap.size := by have := Hcur3.out.size; have := HN.out; omega
      have Hrow := Lib.hid (show RowAt w3 (some ⟨G, 0, none⟩) (intCells l) from by
        obtain ⟨a, c, e, hr⟩ := own_row Hown3.out (by rw [intCells_len]; exact Hll.out)
        cases e; exact hr)
      obtain ⟨A2, hA2⟩ : ∃ A2, (if cap = k then (some ⟨G, 0, none⟩ : Option Addr) else some ⟨G, 0 + k, none⟩) = A2 := ⟨_, rfl⟩
      have hrA := Cv.row_cut (c := cap) (m := k) Hrow.out (by rw [Hll.out]; exact hk) (by rw [Hll.out]; exact hcap)
      rw [hA2] at hrA
      rw [Nat.zero_add] at hA2
      have HrA := Lib.hid hrA
      have hal : Below w3.heap.size w3 (w3.alloc (.cells #[] 3)) := (Below.refl _ _).alloc (Nat.le_refl _) _
      have Hmk := Lib.hid (own_made (w := w3) rfl)
      have HrM := Lib.hid (HrA.out.below hal)
      have Hal := Lib.hid hal
      have Hl2 := Lib.hid (show (intCells (l.drop k)).length = i - k by rw [intCells_len, List.length_drop, Hll.out])
      have Htk := Lib.hid (show (intCells l).take k = intCells (l.take k) from intCells_take l k)
      have a7 : 0 + (i - k) ≤ maxLen := by unfold maxLen; omega
      have a8 : (0 + (i - k)) * 8 ≤ 140737488355328 := by omega
      have a3 : k + 1 ≤ maxLen := by unfold maxLen; omega
      have a4 : (k + 1) * 8 ≤ 140737488355328 := by omega
      have a5 : k + 1 + (i - k) ≤ maxLen := by unfold maxLen; omega
      have a6 : (k + 1 + (i - k)) * 8 ≤ 140737488355328 := by omega
      have hkc : (k : Int) ≤ (cap : Int) := by omega
      have hkl : (k : Int) ≤ (i : Int) := by omega
      have hk0 : (0 : Int) ≤ (k : Int) := by omega
      have hkc' : k ≤ cap := by omega
      clear hal hrA hc3 hg3 hz0 hz1 hcur
      go_wp2_with (first
        | (at_builtin; refine append_row rfl (.tmp 20) (.tmp 23) 30 rfl w3.heap.size 3 i0 _ 8 Tryz.underlying30 Hi0.out Hz0.out Hz1.out Hz2.out (by rfl) _ 0 (intCells []) rfl Hmk.out A2 (i - k) _ (intCells (l.drop k)) rfl HrM.out Hl2.out (intCells_one _) a7 a8 Hal.out.size ?_; intro v2 w4 hown2 hg2; rw [Nat.zero_add] at hown2; have hb2 := Below.grown Hal.out hg2 Hal.out.size (fun k hk => (Hmk.out.lt k hk).1); obtain ⟨ra, rc, rfl, hrr⟩ := own_row hown2 Hl2.out; have hl' := own_take (own_keep Hown3.out hb2 (fun k hk => (Hown3.out.lt k hk).2)) hk; rw [Htk.out] at hl'; have Hb2 := Lib.hid hb2; have Hrest := Lib.hid (show w4.ownsRow w3.heap.size 3 1 (.slice ra (i - k) rc) (i - k) (intCells (l.drop k)) from hown2); have Hl' := Lib.hid hl'; have hN2 : N ≤ w4.heap.size := Nat.le_trans hN3 hb2.size; clear hown2 hg2 hb2 hrr hl')
        | (at_builtin; refine append_one_new rfl (.tmp 27) (.tmp 29) 30 rfl N 3 i0 _ 8 Tryz.underlying30 Hi0.out Hz0.out Hz1.out Hz2.out (by rfl) _ _ _ rfl Hl'.out (by rfl) _ rfl a3 a4 hN2 ?_; intro v3 w5 hown3 hg3 hn3; have hg3' : (w4.alloc (.cells #[.int .i64 (i : Int)] 3)).grownBy w5 (Value.slice (some ⟨G, 0, none⟩) k cap).ownBlock := hg3; have hGlt := (Hown3.out.lt G rfl).2; have hrest3 := (Hrest.out.alloc (.cells #[.int .i64 (i : Int)] 3)).kept hg3' (rest_apart Hrest.out hGlt); obtain ⟨ra', rc', e3, hrr3⟩ := own_row hrest3 Hl2.out; cases e3; have hG3 : w3.grownBy w5 (some G) := grown_trans (only_of_below (Hb2.out.alloc Hb2.out.size _) (some G)) hg3'; have hn3'' := block_new (B := w3.heap.size) hn3 (by have := Hb2.out.size; simp; omega); have Hrr3 := Lib.hid hrr3; have Hown5 := Lib.hid hown3; have HG3 := Lib.hid hG3; have Hn3 := Lib.hid hn3''; have hN5 : N ≤ w5.heap.size := Nat.le_trans hN3 hG3.size; clear hown3 hg3 hg3' hrest3 hrr3 hG3 hn3 hn3'' hGlt)
        | (at_builtin; refine append_row_new rfl (.tmp 30) (.tmp 31) 30 rfl N 3 i0 _ 8 Tryz.underlying30 Hi0.out Hz0.out Hz1.out Hz2.out (by rfl) _ _ _ rfl Hown5.out ra (i - k) _ (intCells (l.drop k)) rfl Hrr3.out Hl2.out (intCells_one _) a5 a6 hN5 ?_; intro v4 w6 hown4 hg4 hn4; have hG4 := grown_two HG3.out hg4 Hn3.out; rw [show k + 1 + (i - k) = i + 1 by omega] at hown4; obtain ⟨G', cap', rfl, _, _⟩ := own_form hown4 (by omega); have Hown6 := Lib.hid hown4; have HG4 := Lib.hid hG4; clear hown4 hg4 hG4 hn4))
      go_roundw
      case rel =>
        refine ⟨i + 1, by omega, by go_num, G', cap', rfl, Lib.hid ⟨l.take k ++ [(i : Int)] ++ l.drop k, ⟨?_, fun x hx => ?_⟩, ?_⟩, Lib.hid (Hcur3.out.row HG4.out (by rw [HN.out]; exact hgw) (fun q hq => by cases hq; rw [HN.out]; exact hGN))⟩
        · rw [List.length_append, List.length_append, List.length_take, List.length_drop, Hll.out]; simp; omega
        · have hx2 : x ∈ l ∨ x = (i : Int) := by
            rcases List.mem_append.1 hx with hx | hx
            · rcases List.mem_append.1 hx with hx | hx
              · exact Or.inl (List.mem_of_mem_take hx)
              · exact Or.inr (List.mem_singleton.1 hx)
            · exact Or.inl (List.mem_of_mem_drop hx)
          rcases hx2 with hx2 | rfl
          · have := Hlx.out x hx2; omega
          · omega
        · have h := Hown6.out
          rw [show intCells (l.take k) ++ [Value.int .i64 (i : Int)] ++ intCells (l.drop k) = intCells (l.take k ++ [(i : Int)] ++ l.drop k) from by simp [intCells]] at h
          exact h
      case measure => simp [intOf]; omega
    · obtain rfl : i = n := by omega
      have dlt : ¬ (i : Int) < (i : Int) := by omega
      obtain ⟨l, ⟨hll, hlx⟩, hown⟩ := hrow.out
      have Hown := Lib.hid hown; have Hlx := Lib.hid hlx
      clear hrow hown hlx
      go_wp2
      go_ret
      exact ⟨_, l, rfl, hll, Hlx.out, by rw [HN.out]; exact Hown.out, hcur.out⟩
end Go.Proofs.YtamgimdjnmcpaaaGreat
namespace Go.Proofs.YtamgimdjnmcpaaaGreat
open Go.RowKit

/-- Rows in one literal. -/
def Lst (N : Nat) (w : World) (B : Nat) (hs : List Hd) : Prop := Blk w B 30 (hdCells hs).toArray ∧ N ≤ B ∧ ∀ h ∈ hs, RowIn w N w.heap.size 3 h.a (intCells h.l) ∧ h.l.length ≤ 10
section
variable {N B g : Nat} {w w' : World} {hs : List Hd}
theorem Lst.draw (h : Lst N w B hs) (hg : w.grownBy w' (some g)) (hgN : g < N) : Lst N w' B hs :=
  ⟨h.1.grown hg (fun e => by cases e; have := h.2.1; omega), h.2.1, fun x hx => ⟨((h.2.2 x hx).1.only (Only.of_grown hg) (Or.inr (by omega))).mono (Nat.le_refl _) hg.size, (h.2.2 x hx).2⟩⟩
theorem Lst.below (h : Lst N w B hs) (hb : Below w.heap.size w w') : Lst N w' B hs :=
  ⟨h.1.below hb h.1.lt, h.2.1, fun x hx => ⟨((h.2.2 x hx).1.below hb).mono (Nat.le_refl _) hb.size, (h.2.2 x hx).2⟩⟩
theorem Lst.new {cs : Array Value} (h : ∀ h ∈ hs, RowIn w N w.heap.size 3 h.a (intCells h.l) ∧ h.l.length ≤ 10) (hN : N ≤ w.heap.size) (hc : (hdCells hs).toArray = cs) : Lst N (w.alloc (.cells cs 30)) w.heap.size hs := by
  subst hc
  have hb : Below w.heap.size w (w.alloc (.cells (hdCells hs).toArray 30)) := (Below.refl _ _).alloc (Nat.le_refl _) _
  exact ⟨Blk.new w _ _, hN, fun x hx => ⟨((h x hx).1.below hb).mono (Nat.le_refl _) hb.size, (h x hx).2⟩⟩
theorem Lst.cell (h : Lst N w B hs) {i : Nat} {x : Hd} (hi : hs[i]? = some x) : w.cell? ⟨B, i, none⟩ = some (.slice x.a x.l.length x.c) := by
  obtain ⟨h5, rfl⟩ := List.getElem?_eq_some_iff.1 hi
  rw [h.1.cell i]
  simp [hdCells, h5, Hd.val]
theorem Lst.set (h : Lst N w B hs) {p : Nat} {x : Hd} {v : Value} (hx : RowIn w N w.heap.size 3 x.a (intCells x.l)) (h10 : x.l.length ≤ 10) (hv : x.val = v) : Lst N (w.setCell ⟨B, p, none⟩ v) B (hs.set p x) := by
  subst hv
  have hsz : (w.setCell ⟨B, p, none⟩ x.val).heap.size = w.heap.size := by simp [World.setCell]
  have far : ∀ {a : Option Addr} {cs : List Value}, RowIn w N w.heap.size 3 a cs → RowIn (w.setCell ⟨B, p, none⟩ x.val) N w.heap.size 3 a cs := by
    intro a cs hr
    rcases hr with e | ⟨g', o, all, e, e1, e2, e3, e4⟩
    · exact Or.inl e
    · refine Or.inr ⟨g', o, all, e, e1, e2, e3.far (fun e5 => ?_) _, e4⟩
      have e5 : g' = B := e5
      subst e5
      have h1 := h.1
      unfold Blk at e3 h1; rw [h1] at e3
      injection e3 with e3; injection e3 with _ e6 _
      exact absurd e6 (by decide)
  refine ⟨?_, h.2.1, fun y hy => ?_⟩
  · have h1 := h.1.put p x.val
    rw [hdCells_set]
    simpa using h1
  · rw [hsz]
    rcases List.mem_or_eq_of_mem_set hy with hy | rfl
    · exact ⟨far (h.2.2 y hy).1, (h.2.2 y hy).2⟩
    · exact ⟨far hx, h10⟩
theorem Lst.grid (h : Lst N w B hs) {m : Nat} : GridAt w (some ⟨B, 0, none⟩) ((hs.map Hd.l).take m) := by
  refine ⟨hs.take m, by rw [List.map_take], Or.inr ⟨B, 0, rfl, h.1.lt, fun i v hv => ?_⟩, fun x hx => (h.2.2 x (List.mem_of_mem_take hx)).1.row⟩
  rw [Nat.zero_add, h.1.cell i]
  rw [show hdCells (hs.take m) = (hdCells hs).take m from by simp [hdCells, List.map_take], List.getElem?_take] at hv
  split at hv
  · simpa using hv
  · cases hv
end
/-- An action that was drawn, mostly. -/
def DrawnA (w : World) (g : Nat) (e : Ending) (w' : World) : Prop := ∃ G a c L, e = .returned (.tuple #[.int .i64 G, .slice a (L : List (List Int)).length c]) ∧ -10 ≤ G ∧ G ≤ 10 ∧ L.length ≤ 4 ∧ (∀ p ∈ L, p.length ≤ 10) ∧ (∀ w'', w'.grownBy w'' (some g) → GridAt w'' a L) ∧ CurG w g w'
theorem drawnA {w w' : World} {g N B m c : Nat} {G : Int} {hs : List Hd} (h : Lst N w' B hs) (hgN : g < N) (hm : m ≤ hs.length) (h4 : hs.length ≤ 4) (h0 : -10 ≤ G) (h1 : G ≤ 10) (hc : CurG w g w') :
    DrawnA w g (.returned (.tuple #[.int .i64 G, .slice (some ⟨B, 0, none⟩) m c])) w' := by
  refine ⟨G, some ⟨B, 0, none⟩, c, (hs.map Hd.l).take m, by rw [List.length_take, List.length_map, Nat.min_eq_left hm], h0, h1, by rw [List.length_take, List.length_map]; omega, fun p hp => ?_, fun w'' hg => (h.draw hg hgN).grid, hc⟩
  obtain ⟨x, hx, rfl⟩ := List.mem_map.1 (List.mem_of_mem_take hp)
  exact (h.2.2 x hx).2
set_option maxRecDepth 100000 in
set_option maxHeartbeats 8000000 in
theorem l9Draw (g : Nat) (w : World) (hc : CurAt w g) :
    Calls Tryz.prog 29 #[.pointer (some ⟨g, 0, none⟩)] w (DrawnA w g) := by
  obtain ⟨i0, hi0, hz0, hz1, hz2⟩ := info_int_parts
  have Hi0 := Lib.hid hi0; have Hz0 := Lib.hid hz0; have Hz1 := Lib.hid hz1; have Hz2 := Lib.hid hz2
  have hgw := hc.lt
  have Hcur := Lib.hid (show CurG w g w from ⟨hc, World.grownBy.refl _ _⟩)
  obtain ⟨N, hN⟩ : ∃ N, w.heap.size = N := ⟨_, rfl⟩
  have HN := Lib.hid hN
  rw [hN] at hgw
  clear hi0 hz0 hz1 hz2 hN hc
  go_enter Tryz.func29, Tryz.ntmps29
  go_wp2_with fail
  refine (l1Below g 3 w Hcur.out.1 (by omega) (by omega)).mono ?_
  rintro e w1 ⟨⟨G, rfl, hG0, hG1⟩, hc1, hg1⟩
  have Hcur1 := Lib.hid (Hcur.out.drawn hc1 hg1)
  clear hc1 hg1
  go_wp2_with fail
  refine (l1Below g 4 w1 Hcur1.out.1 (by omega) (by omega)).mono ?_
  rintro e w2 ⟨⟨z, rfl, hz0, hz1⟩, hc2, hg2⟩
  obtain ⟨n, hn⟩ : ∃ n : Nat, 1 + z = (n : Int) := ⟨(1 + z).toNat, by omega⟩
  have hn4 : n ≤ 4 := by omega
  have hn1 : 1 ≤ n := by omega
  have e1 : IntKind.i64.wrap (1 + z) = (n : Int) := by rw [hn]; exact wrap_small (by omega) (by omega)
  have Hcur2 := Lib.hid (Hcur1.out.drawn hc2 hg2)
  have hN2 : N ≤ w2.heap.size := by have := Hcur2.out.size; have := HN.out; omega
  clear hc2 hg2 hz0 hz1 hn
  go_wp2_with fail
  refine (l9PermQ g n w2 Hcur2.out.1 (by omega)).mono ?_
  rintro e w3 ⟨va, la, rfl, hla, hax, hown3, hcur3⟩
  obtain ⟨aa, ca, he⟩ := own_len hown3
  subst he
  have Ha3 := Lib.hid (show RowIn w3 N w3.heap.size 3 aa (intCells la) from by
    obtain ⟨a', c', he, _, hf⟩ := own_fresh hown3 (by rw [intCells_len]; exact hla)
    cases he
    exact (RowIn.of_fresh hf).mono hN2 (Nat.le_refl _))
  have Hcur3 := Lib.hid (Hcur2.out.drawn hcur3.1 hcur3.2)
  have hN3 : N ≤ w3.heap.size := by have := Hcur3.out.size; have := HN.out; omega
  have Hla := Lib.hid hla; have Hax := Lib.hid hax
  clear hla hax hown3 hcur3
  go_wp2_with fail
  refine (l9PermQ g n w3 Hcur3.out.1 (by omega)).mono ?_
  rintro e w4 ⟨vb, lb, rfl, hlb, _, hown4, hcur4⟩
  obtain ⟨ab, cb, he⟩ := own_len hown4
  subst he
  have Hb4 := Lib.hid (show RowIn w4 N w4.heap.size 3 ab (intCells lb) from by
    obtain ⟨a', c', he, _, hf⟩ := own_fresh hown4 (by rw [intCells_len]; exact hlb)
    cases he
    exact (RowIn.of_fresh hf).mono hN3 (Nat.le_refl _))
  have Ha4 := Lib.hid (((Ha3.out.only (Only.of_grown hcur4.2) (Or.inr (by omega))).mono (Nat.le_refl _) hcur4.2.size))
  have Hcur4 := Lib.hid (Hcur3.out.drawn hcur4.1 hcur4.2)
  have hN4 : N ≤ w4.heap.size := by have := Hcur4.out.size; have := HN.out; omega
  have Hlb := Lib.hid hlb
  clear hlb hown4 hcur4
  have Hlst := Lib.hid (Lst.new (N := N) (w := w4) (hs := [⟨aa, ca, la⟩, ⟨ab, cb, lb⟩]) (cs := #[.slice aa n ca, .slice ab n cb]) (fun h hh => by
    simp only [List.mem_cons, List.not_mem_nil, or_false] at hh
    rcases hh with rfl | rfl
    · exact ⟨Ha4.out, by rw [Hla.out]; omega⟩
    · exact ⟨Hb4.out, by rw [Hlb.out]; omega⟩) hN4 (by simp [hdCells, Hd.val, Hla.out, Hlb.out]))
  have hal5 : Below w4.heap.size w4 (w4.alloc (.cells #[.slice aa n ca, .slice ab n cb] 30)) := (Below.refl _ _).alloc (Nat.le_refl _) _
  have Hcur5 := Lib.hid (Hcur4.out.below hal5)
  have Ha5 := Lib.hid ((Ha4.out.below hal5).mono (Nat.le_refl _) hal5.size)
  have Hb5 := Lib.hid ((Hb4.out.below hal5).mono (Nat.le_refl _) hal5.size)
  clear hal5 Ha3 Ha4 Hb4 Hcur Hcur1 Hcur2 Hcur3 Hcur4
  have hGc : G = 0 ∨ G = 1 ∨ G = 2 := by omega
  clear hG0 hG1
  rcases hGc with rfl | rfl | rfl
  · as_aux_lemma =>
    go_wp2_with fail
    refine (l1Below g 16 _ Hcur5.out.1 (by omega) (by omega)).mono ?_
    rintro e w6 ⟨⟨y, rfl, hy0, hy1⟩, hc6, hg6⟩
    have Hl6 := Lib.hid (Hlst.out.draw hg6 hgw); have Hc6 := Lib.hid (Hcur5.out.drawn hc6 hg6)
    clear hc6 hg6
    by_cases y0 : y = 0
    · subst y0
      go_wp2_with fail
      refine (l9PermQ g n w6 Hc6.out.1 (by omega)).mono ?_
      rintro e w7 ⟨vx, lx, rfl, hlx, _, hown7, hcur7⟩
      obtain ⟨xa, xc, he⟩ := own_len hown7
      subst he
      have Hx7 := Lib.hid (show RowIn w7 N w7.heap.size 3 xa (intCells lx) from by
        obtain ⟨a', c', he, _, hf⟩ := own_fresh hown7 (by rw [intCells_len]; exact hlx)
        cases he
        exact (RowIn.of_fresh hf).mono (by have := Hc6.out.size; have := HN.out; omega) (Nat.le_refl _))
      have hl7 := Hl6.out.draw hcur7.2 hgw
      have fz := hl7.1.frozen 0
      have c0 := hl7.cell (i := 0) rfl
      have hl8 := hl7.set (p := 0) (x := ⟨xa, xc, lx⟩) (v := .slice xa n xc) Hx7.out (by show lx.length ≤ 10; omega) (by simp [Hd.val, hlx])
      have hc8 : CurG w g (w7.setCell ⟨w4.heap.size, 0, none⟩ (.slice xa n xc)) := ⟨curM_set hcur7.1 (by have := hl7.2.1; omega), grownM_set (Hc6.out.2.trans hcur7.2) (by have := hl7.2.1; have := HN.out; omega)⟩
      have Hl8 := Lib.hid hl8; have Hc8 := Lib.hid hc8
      clear hl7 hl8 hc8 hown7 hcur7
      go_wp2
      go_ret2
      exact drawnA Hl8.out hgw (by simp) (by simp) (by decide) (by decide) Hc8.out
    by_cases y1 : y = 1
    · subst y1
      go_wp2
      go_ret2
      exact drawnA Hl6.out hgw (by simp) (by simp) (by decide) (by decide) Hc6.out
    by_cases y2 : y = 2
    · subst y2
      have hg6 := Hc6.out.1.lt
      go_wp2_with fail
      refine (l1PickInt g w6.heap.size 4 [-1, 3, 0, 1] _ (Hc6.out.1.alloc _) (Blk.new _ _ _) (by omega) (by decide) (by decide)).mono ?_
      rintro e w8 ⟨⟨u, hu, rfl⟩, hc8, hg8⟩
      have hz : ∃ z : Int, u = .int .i64 z ∧ -10 ≤ z ∧ z ≤ 10 := by
        simp only [intCells, List.map_cons, List.map_nil, List.mem_cons, List.mem_nil_iff, or_false] at hu
        rcases hu with rfl | rfl | rfl | rfl
        · exact ⟨-1, rfl, by omega, by omega⟩
        · exact ⟨3, rfl, by omega, by omega⟩
        · exact ⟨0, rfl, by omega, by omega⟩
        · exact ⟨1, rfl, by omega, by omega⟩
      obtain ⟨z, rfl, hz0, hz1⟩ := hz
      have Hl8 := Lib.hid ((Hl6.out.below ((Below.refl w6.heap.size w6).alloc (Nat.le_refl _) (.cells (intCells [-1, 3, 0, 1]).toArray 3))).draw hg8 hgw); have Hc8 := Lib.hid ((Hc6.out.alloc _).drawn hc8 hg8)
      clear hu hc8 hg8
      go_wp2
      go_ret2
      exact drawnA Hl8.out hgw (by simp) (by simp) hz0 hz1 Hc8.out
    have t0 : (y == 0) = false := beq_eq_false_iff_ne.2 y0
    have t1 : (y == 1) = false := beq_eq_false_iff_ne.2 y1
    have t2 : (y == 2) = false := beq_eq_false_iff_ne.2 y2
    clear y0 y1 y2
    go_wp2
    go_ret2
    exact drawnA Hl6.out hgw (by simp) (by simp) (by decide) (by decide) Hc6.out
  · as_aux_lemma =>
    obtain ⟨w5, hw5⟩ : ∃ w5, w4.alloc (.cells #[.slice aa n ca, .slice ab n cb] 30) = w5 := ⟨_, rfl⟩
    rw [hw5] at Hcur5 Ha5 Hb5 Hlst
    have Hs5 := Lib.hid (show w5.heap.size = w4.heap.size + 1 from by rw [← hw5]; simp)
    have hN5 : N ≤ w5.heap.size := by have := Hcur5.out.size; have := HN.out; omega
    have hal6 : Below w5.heap.size w5 (w5.alloc (.cells #[] 3)) := (Below.refl _ _).alloc (Nat.le_refl _) _
    have Hal6 := Lib.hid hal6
    have Hm6 := Lib.hid (own_made (w := w5) rfl)
    obtain ⟨M, hM⟩ : ∃ M, w5.heap.size = M := ⟨_, rfl⟩
    have HM := Lib.hid hM
    have HW5 := Lib.hid hw5
    clear hal6 hM hw5
    go_wp2
    rw [HW5.out]
    go_loopw [9, 10] (fun pv sv wr => ∃ s : Nat, s ≤ n ∧ sv = .int .i64 s ∧ Hid (∃ l : List Int, l.length = s ∧ wr.ownsRow M 3 1 pv s (intCells l)) ∧ Hid (Below w5.heap.size w5 wr)) (fun _ sv _ => n - (intOf sv).toNat)
    case atStart => exact ⟨0, by omega, rfl, Lib.hid ⟨[], rfl, by rw [← HM.out, ← Hs5.out]; exact Hm6.out⟩, Hal6⟩
    case round =>
      obtain ⟨s, hs, rfl, hrow, hb⟩ := hrel
      by_cases hlt : s < n
      · obtain ⟨l, hll, hown⟩ := hrow.out
        have dlt : (s : Int) < (n : Int) := by omega
        obtain ⟨x, hx⟩ := get_some (show s < la.length by rw [Hla.out]; exact hlt)
        have hxb := Hax.out x (get_mem hx)
        obtain ⟨y, rfl⟩ : ∃ y : Nat, x = (y : Int) := ⟨x.toNat, by omega⟩
        obtain ⟨x2, hx2⟩ := get_some (show y < la.length by rw [Hla.out]; omega)
        obtain ⟨b1, o1, e1, hbw1, hc1⟩ := intCells_get? (Ha5.out.row.below hb.out) hx
        obtain ⟨b2, o2, e2, hbw2, hc2⟩ := intCells_get? (Ha5.out.row.below hb.out) hx2
        subst e1; cases e2
        have Hown := Lib.hid hown; have Hll := Lib.hid hll
        have a1 : s + 1 ≤ maxLen := by unfold maxLen; omega
        have a2 : (s + 1) * 8 ≤ 140737488355328 := by omega
        have y0 : (0 : Int) ≤ (y : Int) := by omega
        have y1 : (y : Int) < (n : Int) := by omega
        have s0 : (0 : Int) ≤ (s : Int) := by omega
        have hMr : M ≤ wr.heap.size := by have := hb.out.size; have := HM.out; omega
        obtain ⟨pa, pc, he⟩ := own_len hown
        subst he
        clear hown hll hrow hx hx2 hxb
        go_wp2_with (at_builtin; refine append_one rfl (.tmp 34) (.tmp 42) 30 rfl M 3 i0 _ 8 Tryz.underlying30 Hi0.out Hz0.out Hz1.out Hz2.out (by rfl) _ s (intCells l) rfl Hown.out (by rfl) _ rfl a1 a2 hMr ?_; intro v7 w7 hown7 hg7 _)
        go_roundw
        case rel =>
          refine ⟨s + 1, by omega, by go_num, Lib.hid ⟨l ++ [x2], by rw [List.length_append, Hll.out]; rfl, by rw [← intCells_snoc]; exact hown7⟩, Lib.hid (Below.grown (hb.out.alloc hb.out.size _) hg7 (by have := hb.out.size; simp; omega) (fun k hk => by have := (Hown.out.lt k hk).1; have := HM.out; omega))⟩
        case measure => simp [intOf]; omega
      · obtain rfl : s = n := by omega
        have dlt : ¬ (s : Int) < (s : Int) := by omega
        obtain ⟨l, hll, hown⟩ := hrow.out
        obtain ⟨pa, pc, he⟩ := own_len hown
        subst he
        have Hp := Lib.hid (show RowIn wr N wr.heap.size 3 pa (intCells l) from by
          obtain ⟨a', c', he, _, hf⟩ := own_fresh hown (by rw [intCells_len]; exact hll)
          cases he
          exact (RowIn.of_fresh hf).mono (by have := HM.out; omega) (Nat.le_refl _))
        have Har := Lib.hid (((Ha5.out.below hb.out).mono (Nat.le_refl _) hb.out.size))
        have Hcr := Lib.hid (Hcur5.out.below hb.out)
        have hNr : N ≤ wr.heap.size := by have := Hcr.out.size; have := HN.out; omega
        have Hl2 := Lib.hid (Lst.new (N := N) (w := wr) (hs := [⟨aa, ca, la⟩, ⟨pa, pc, l⟩]) (cs := #[.slice aa s ca, .slice pa s pc]) (fun h hh => by
          simp only [List.mem_cons, List.not_mem_nil, or_false] at hh
          rcases hh with rfl | rfl
          · exact ⟨Har.out, by rw [Hla.out]; omega⟩
          · exact ⟨Hp.out, by rw [hll]; omega⟩) hNr (by simp [hdCells, Hd.val, Hla.out, hll]))
        have hal7 : Below wr.heap.size wr (wr.alloc (.cells #[.slice aa s ca, .slice pa s pc] 30)) := (Below.refl _ _).alloc (Nat.le_refl _) _
        have Hc2 := Lib.hid (Hcr.out.below hal7)
        have Ha7 := Lib.hid ((Har.out.below hal7).mono (Nat.le_refl _) hal7.size)
        clear hown hll hrow hal7 hb Har Hp Hcr
        go_wp2_with fail
        refine (l1Once g 4 _ Hc2.out.1 (by omega) (by omega)).mono ?_
        rintro e w8 ⟨⟨bb, rfl⟩, hc8, hg8⟩
        have Hl8 := Lib.hid (Hl2.out.draw hg8 hgw); have Hc8 := Lib.hid (Hc2.out.drawn hc8 hg8)
        have Ha8 := Lib.hid (((Ha7.out.only (Only.of_grown hg8) (Or.inr (by omega))).mono (Nat.le_refl _) hg8.size))
        clear hc8 hg8
        cases bb with
        | true =>
          have fz := Hl8.out.1.frozen 1
          have c1 := Hl8.out.cell (i := 1) rfl
          have Hl9 := Lib.hid (Hl8.out.set (p := 1) (x := ⟨aa, ca, la⟩) (v := .slice aa s ca) Ha8.out (by show la.length ≤ 10; rw [Hla.out]; omega) (by simp [Hd.val, Hla.out]))
          have Hc9 := Lib.hid (show CurG w g (w8.setCell ⟨wr.heap.size, 1, none⟩ (.slice aa s ca)) from ⟨curM_set Hc8.out.1 (by omega), grownM_set Hc8.out.2 (by have := HN.out; omega)⟩)
          go_wp2_with fail
          refine (l1Below g 16 _ Hc9.out.1 (by omega) (by omega)).mono ?_
          rintro e w6 ⟨⟨y, rfl, hy0, hy1⟩, hc6, hg6⟩
          have Hl6 := Lib.hid (Hl9.out.draw hg6 hgw); have Hc6 := Lib.hid (Hc9.out.drawn hc6 hg6)
          clear hc6 hg6
          by_cases y0 : y = 0
          · subst y0
            go_wp2_with fail
            refine (l9PermQ g s w6 Hc6.out.1 (by omega)).mono ?_
            rintro e w7 ⟨vx, lx, rfl, hlx, _, hown7, hcur7⟩
            obtain ⟨xa, xc, he⟩ := own_len hown7
            subst he
            have Hx7 := Lib.hid (show RowIn w7 N w7.heap.size 3 xa (intCells lx) from by
              obtain ⟨a', c', he, _, hf⟩ := own_fresh hown7 (by rw [intCells_len]; exact hlx)
              cases he
              exact (RowIn.of_fresh hf).mono (by have := Hc6.out.size; have := HN.out; omega) (Nat.le_refl _))
            have hl7 := Hl6.out.draw hcur7.2 hgw
            have fz := hl7.1.frozen 0
            have c0 := hl7.cell (i := 0) rfl
            have hl8 := hl7.set (p := 0) (x := ⟨xa, xc, lx⟩) (v := .slice xa s xc) Hx7.out (by show lx.length ≤ 10; omega) (by simp [Hd.val, hlx])
            have hc8 : CurG w g (w7.setCell ⟨wr.heap.size, 0, none⟩ (.slice xa s xc)) := ⟨curM_set hcur7.1 (by have := hl7.2.1; omega), grownM_set (Hc6.out.2.trans hcur7.2) (by have := hl7.2.1; have := HN.out; omega)⟩
            have Hl8 := Lib.hid hl8; have Hc8 := Lib.hid hc8
            clear hl7 hl8 hc8 hown7 hcur7
            go_wp2
            go_ret2
            exact drawnA Hl8.out hgw (by simp) (by simp) (by decide) (by decide) Hc8.out
          by_cases y1 : y = 1
          · subst y1
            go_wp2
            go_ret2
            exact drawnA Hl6.out hgw (by simp) (by simp) (by decide) (by decide) Hc6.out
          by_cases y2 : y = 2
          · subst y2
            have hg6 := Hc6.out.1.lt
            go_wp2_with fail
            refine (l1PickInt g w6.heap.size 4 [-1, 3, 0, 1] _ (Hc6.out.1.alloc _) (Blk.new _ _ _) (by omega) (by decide) (by decide)).mono ?_
            rintro e w8 ⟨⟨u, hu, rfl⟩, hc8, hg8⟩
            have hz : ∃ z : Int, u = .int .i64 z ∧ -10 ≤ z ∧ z ≤ 10 := by
              simp only [intCells, List.map_cons, List.map_nil, List.mem_cons, List.mem_nil_iff, or_false] at hu
              rcases hu with rfl | rfl | rfl | rfl
              · exact ⟨-1, rfl, by omega, by omega⟩
              · exact ⟨3, rfl, by omega, by omega⟩
              · exact ⟨0, rfl, by omega, by omega⟩
              · exact ⟨1, rfl, by omega, by omega⟩
            obtain ⟨z, rfl, hz0, hz1⟩ := hz
            have Hl8 := Lib.hid ((Hl6.out.below ((Below.refl w6.heap.size w6).alloc (Nat.le_refl _) (.cells (intCells [-1, 3, 0, 1]).toArray 3))).draw hg8 hgw); have Hc8 := Lib.hid ((Hc6.out.alloc _).drawn hc8 hg8)
            clear hu hc8 hg8
            go_wp2
            go_ret2
            exact drawnA Hl8.out hgw (by simp) (by simp) hz0 hz1 Hc8.out
          have t0 : (y == 0) = false := beq_eq_false_iff_ne.2 y0
          have t1 : (y == 1) = false := beq_eq_false_iff_ne.2 y1
          have t2 : (y == 2) = false := beq_eq_false_iff_ne.2 y2
          clear y0 y1 y2
          go_wp2
          go_ret2
          exact drawnA Hl6.out hgw (by simp) (by simp) (by decide) (by decide) Hc6.out
        | false =>
          go_wp2_with fail
          refine (l1Below g 16 w8 Hc8.out.1 (by omega) (by omega)).mono ?_
          rintro e w6 ⟨⟨y, rfl, hy0, hy1⟩, hc6, hg6⟩
          have Hl6 := Lib.hid (Hl8.out.draw hg6 hgw); have Hc6 := Lib.hid (Hc8.out.drawn hc6 hg6)
          clear hc6 hg6
          by_cases y0 : y = 0
          · subst y0
            go_wp2_with fail
            refine (l9PermQ g s w6 Hc6.out.1 (by omega)).mono ?_
            rintro e w7 ⟨vx, lx, rfl, hlx, _, hown7, hcur7⟩
            obtain ⟨xa, xc, he⟩ := own_len hown7
            subst he
            have Hx7 := Lib.hid (show RowIn w7 N w7.heap.size 3 xa (intCells lx) from by
              obtain ⟨a', c', he, _, hf⟩ := own_fresh hown7 (by rw [intCells_len]; exact hlx)
              cases he
              exact (RowIn.of_fresh hf).mono (by have := Hc6.out.size; have := HN.out; omega) (Nat.le_refl _))
            have hl7 := Hl6.out.draw hcur7.2 hgw
            have fz := hl7.1.frozen 0
            have c0 := hl7.cell (i := 0) rfl
            have hl8 := hl7.set (p := 0) (x := ⟨xa, xc, lx⟩) (v := .slice xa s xc) Hx7.out (by show lx.length ≤ 10; omega) (by simp [Hd.val, hlx])
            have hc8 : CurG w g (w7.setCell ⟨wr.heap.size, 0, none⟩ (.slice xa s xc)) := ⟨curM_set hcur7.1 (by have := hl7.2.1; omega), grownM_set (Hc6.out.2.trans hcur7.2) (by have := hl7.2.1; have := HN.out; omega)⟩
            have Hl8 := Lib.hid hl8; have Hc8 := Lib.hid hc8
            clear hl7 hl8 hc8 hown7 hcur7
            go_wp2
            go_ret2
            exact drawnA Hl8.out hgw (by simp) (by simp) (by decide) (by decide) Hc8.out
          by_cases y1 : y = 1
          · subst y1
            go_wp2
            go_ret2
            exact drawnA Hl6.out hgw (by simp) (by simp) (by decide) (by decide) Hc6.out
          by_cases y2 : y = 2
          · subst y2
            have hg6 := Hc6.out.1.lt
            go_wp2_with fail
            refine (l1PickInt g w6.heap.size 4 [-1, 3, 0, 1] _ (Hc6.out.1.alloc _) (Blk.new _ _ _) (by omega) (by decide) (by decide)).mono ?_
            rintro e w8 ⟨⟨u, hu, rfl⟩, hc8, hg8⟩
            have hz : ∃ z : Int, u = .int .i64 z ∧ -10 ≤ z ∧ z ≤ 10 := by
              simp only [intCells, List.map_cons, List.map_nil, List.mem_cons, List.mem_nil_iff, or_false] at hu
              rcases hu with rfl | rfl | rfl | rfl
              · exact ⟨-1, rfl, by omega, by omega⟩
              · exact ⟨3, rfl, by omega, by omega⟩
              · exact ⟨0, rfl, by omega, by omega⟩
              · exact ⟨1, rfl, by omega, by omega⟩
            obtain ⟨z, rfl, hz0, hz1⟩ := hz
            have Hl8 := Lib.hid ((Hl6.out.below ((Below.refl w6.heap.size w6).alloc (Nat.le_refl _) (.cells (intCells [-1, 3, 0, 1]).toArray 3))).draw hg8 hgw); have Hc8 := Lib.hid ((Hc6.out.alloc _).drawn hc8 hg8)
            clear hu hc8 hg8
            go_wp2
            go_ret2
            exact drawnA Hl8.out hgw (by simp) (by simp) hz0 hz1 Hc8.out
          have t0 : (y == 0) = false := beq_eq_false_iff_ne.2 y0
          have t1 : (y == 1) = false := beq_eq_false_iff_ne.2 y1
          have t2 : (y == 2) = false := beq_eq_false_iff_ne.2 y2
          clear y0 y1 y2
          go_wp2
          go_ret2
          exact drawnA Hl6.out hgw (by simp) (by simp) (by decide) (by decide) Hc6.out
  · as_aux_lemma =>
    obtain ⟨w5, hw5⟩ : ∃ w5, w4.alloc (.cells #[.slice aa n ca, .slice ab n cb] 30) = w5 := ⟨_, rfl⟩
    rw [hw5] at Hcur5 Ha5 Hb5 Hlst
    have hN5 : N ≤ w5.heap.size := by have := Hcur5.out.size; have := HN.out; omega
    have Hl2 := Lib.hid (Lst.new (N := N) (w := w5) (hs := [⟨aa, ca, la⟩, ⟨ab, cb, lb⟩, ⟨ab, cb, lb⟩, ⟨aa, ca, la⟩]) (cs := #[.slice aa n ca, .slice ab n cb, .slice ab n cb, .slice aa n ca]) (fun h hh => by
      simp only [List.mem_cons, List.not_mem_nil, or_false] at hh
      rcases hh with rfl | rfl | rfl | rfl
      · exact ⟨Ha5.out, by rw [Hla.out]; omega⟩
      · exact ⟨Hb5.out, by rw [Hlb.out]; omega⟩
      · exact ⟨Hb5.out, by rw [Hlb.out]; omega⟩
      · exact ⟨Ha5.out, by rw [Hla.out]; omega⟩) hN5 (by simp [hdCells, Hd.val, Hla.out, Hlb.out]))
    have hal7 : Below w5.heap.size w5 (w5.alloc (.cells #[.slice aa n ca, .slice ab n cb, .slice ab n cb, .slice aa n ca] 30)) := (Below.refl _ _).alloc (Nat.le_refl _) _
    have Hc2 := Lib.hid (Hcur5.out.below hal7)
    clear hal7
    go_wp2_with fail
    refine (l1Below g 16 _ Hc2.out.1 (by omega) (by omega)).mono ?_
    rintro e w6 ⟨⟨y, rfl, hy0, hy1⟩, hc6, hg6⟩
    have Hl6 := Lib.hid (Hl2.out.draw hg6 hgw); have Hc6 := Lib.hid (Hc2.out.drawn hc6 hg6)
    clear hc6 hg6
    by_cases y0 : y = 0
    · subst y0
      go_wp2_with fail
      refine (l9PermQ g n w6 Hc6.out.1 (by omega)).mono ?_
      rintro e w7 ⟨vx, lx, rfl, hlx, _, hown7, hcur7⟩
      obtain ⟨xa, xc, he⟩ := own_len hown7
      subst he
      have Hx7 := Lib.hid (show RowIn w7 N w7.heap.size 3 xa (intCells lx) from by
        obtain ⟨a', c', he, _, hf⟩ := own_fresh hown7 (by rw [intCells_len]; exact hlx)
        cases he
        exact (RowIn.of_fresh hf).mono (by have := Hc6.out.size; have := HN.out; omega) (Nat.le_refl _))
      have hl7 := Hl6.out.draw hcur7.2 hgw
      have fz := hl7.1.frozen 0
      have c0 := hl7.cell (i := 0) rfl
      have hl8 := hl7.set (p := 0) (x := ⟨xa, xc, lx⟩) (v := .slice xa n xc) Hx7.out (by show lx.length ≤ 10; omega) (by simp [Hd.val, hlx])
      have hc8 : CurG w g (w7.setCell ⟨w5.heap.size, 0, none⟩ (.slice xa n xc)) := ⟨curM_set hcur7.1 (by have := hl7.2.1; omega), grownM_set (Hc6.out.2.trans hcur7.2) (by have := hl7.2.1; have := HN.out; omega)⟩
      have Hl8 := Lib.hid hl8; have Hc8 := Lib.hid hc8
      clear hl7 hl8 hc8 hown7 hcur7
      go_wp2
      go_ret2
      exact drawnA Hl8.out hgw (by simp) (by simp) (by decide) (by decide) Hc8.out
    by_cases y1 : y = 1
    · subst y1
      go_wp2
      go_ret2
      exact drawnA Hl6.out hgw (by simp) (by simp) (by decide) (by decide) Hc6.out
    by_cases y2 : y = 2
    · subst y2
      have hg6 := Hc6.out.1.lt
      go_wp2_with fail
      refine (l1PickInt g w6.heap.size 4 [-1, 3, 0, 1] _ (Hc6.out.1.alloc _) (Blk.new _ _ _) (by omega) (by decide) (by decide)).mono ?_
      rintro e w8 ⟨⟨u, hu, rfl⟩, hc8, hg8⟩
      have hz : ∃ z : Int, u = .int .i64 z ∧ -10 ≤ z ∧ z ≤ 10 := by
        simp only [intCells, List.map_cons, List.map_nil, List.mem_cons, List.mem_nil_iff, or_false] at hu
        rcases hu with rfl | rfl | rfl | rfl
        · exact ⟨-1, rfl, by omega, by omega⟩
        · exact ⟨3, rfl, by omega, by omega⟩
        · exact ⟨0, rfl, by omega, by omega⟩
        · exact ⟨1, rfl, by omega, by omega⟩
      obtain ⟨z, rfl, hz0, hz1⟩ := hz
      have Hl8 := Lib.hid ((Hl6.out.below ((Below.refl w6.heap.size w6).alloc (Nat.le_refl _) (.cells (intCells [-1, 3, 0, 1]).toArray 3))).draw hg8 hgw); have Hc8 := Lib.hid ((Hc6.out.alloc _).drawn hc8 hg8)
      clear hu hc8 hg8
      go_wp2
      go_ret2
      exact drawnA Hl8.out hgw (by simp) (by simp) hz0 hz1 Hc8.out
    have t0 : (y == 0) = false := beq_eq_false_iff_ne.2 y0
    have t1 : (y == 1) = false := beq_eq_false_iff_ne.2 y1
    have t2 : (y == 2) = false := beq_eq_false_iff_ne.2 y2
    clear y0 y1 y2
    go_wp2
    go_ret2
    exact drawnA Hl6.out hgw (by simp) (by simp) (by decide) (by decide) Hc6.out
end Go.Proofs.YtamgimdjnmcpaaaGreat
namespace Go.Proofs.YtamgimdjnmcpaaaGreat
open Go.RowKit

theorem sum_in : ∀ {l : List Int} (_ : ∀ x ∈ l, 0 ≤ x ∧ x ≤ 100), 0 ≤ l.sum ∧ l.sum ≤ 100 * (l.length : Int)
  | [], _ => by simp
  | x :: l, h => by
    have h1 := h x (List.mem_cons_self ..)
    have h2 := sum_in (l := l) fun y hy => h y (List.mem_cons_of_mem _ hy)
    simp only [List.sum_cons, List.length_cons, Int.natCast_add]
    have : ((1 : Nat) : Int) = 1 := rfl
    omega
set_option maxRecDepth 10000 in
set_option maxHeartbeats 1000000 in
theorem total_sum (a : Option Addr) (c : Nat) (l : List Int) (w : World) (ha : RowAt w a (intCells l)) (hl : l.length ≤ 1000) (hz : ∀ x ∈ l, 0 ≤ x ∧ x ≤ 100) :
    Calls Tryz.prog 27 #[.slice a l.length c] w fun e w' => e = .returned (.int .i64 l.sum) ∧ Below w.heap.size w w' := by
  have Ha := Lib.hid ha; have Hz := Lib.hid hz
  clear ha hz
  go_enter Tryz.func27, Tryz.ntmps27
  go_wp2
  go_loopw [3, 4] (fun sv iv wr => ∃ i : Nat, i ≤ l.length ∧ iv = .int .i64 i ∧ sv = .int .i64 (l.take i).sum ∧ Hid (Below w.heap.size w wr)) (fun _ iv _ => l.length - (intOf iv).toNat)
  case atStart => exact ⟨0, by omega, rfl, rfl, Lib.hid (Below.refl _ _)⟩
  case round =>
    obtain ⟨i, hi, rfl, rfl, hb⟩ := hrel
    by_cases hlt : i < l.length
    · obtain ⟨b, o, rfl, hbw, hcell⟩ := intCells_at (Ha.out.below hb.out) hlt
      have hst : (l.take (i + 1)).sum = (l.take i).sum + l[i] := by rw [List.take_succ_eq_append_getElem hlt, List.sum_append]; simp
      have hb1 := sum_in (l := l.take i) fun x hx => Hz.out x (List.mem_of_mem_take hx)
      have hb2 := Hz.out l[i] (List.getElem_mem hlt)
      have hle : (l.take i).length ≤ 1000 := by rw [List.length_take]; omega
      generalize l[i] = x at *
      generalize (l.take i).sum = S at *
      have e1 : IntKind.i64.wrap (S + x) = S + x := wrap_small (by omega) (by omega)
      have Hst := Lib.hid hst
      have dlt : decide (i < l.length) = true := decide_eq_true hlt
      have h0 : (0 : Int) ≤ (i : Int) := by omega
      have h1 : (i : Int) < (l.length : Int) := by omega
      clear hst hle hb1 hb2
      go_wp2
      go_roundw
      case rel => exact ⟨i + 1, by omega, by go_num, by rw [Hst.out], hb⟩
      case measure => simp [intOf]; omega
    · obtain rfl : i = l.length := by omega
      have dlt : decide (l.length < l.length) = false := decide_eq_false (by omega)
      rw [List.take_of_length_le (Nat.le_refl _)]
      go_wp2
      go_ret
      exact ⟨rfl, hb.out⟩
set_option maxRecDepth 10000 in
set_option maxHeartbeats 1000000 in
theorem sameSurfaces_eq (a a' : Option Addr) (c c' : Nat) (l : List (Int × Int × Int)) (w : World) (ha : RowAt w a (sfCells l)) (ha' : RowAt w a' (sfCells l)) (hl : l.length ≤ 1000000) :
    Calls Tryz.prog 14 #[.slice a l.length c, .slice a' l.length c'] w fun e w' => e = .returned (.bool true) ∧ Below w.heap.size w w' := by
  have Ha := Lib.hid ha; have Ha' := Lib.hid ha'
  clear ha ha'
  go_enter Tryz.func14, Tryz.ntmps14
  go_wp2
  go_loopw [5] (fun iv wr => ∃ i : Nat, i ≤ l.length ∧ iv = .int .i64 i ∧ Hid (Below w.heap.size w wr)) (fun iv _ => l.length - (intOf iv).toNat)
  case atStart => exact ⟨0, Nat.zero_le _, rfl, Lib.hid (Below.refl _ _)⟩
  case round =>
    obtain ⟨i, hi, rfl, hb⟩ := hrel
    by_cases hlt : i < l.length
    · have dlt : decide (i < l.length) = true := decide_eq_true hlt
      obtain ⟨s, hs⟩ := get_some hlt
      obtain ⟨x, y, z⟩ := s
      obtain ⟨b, o, rfl, hbw, p0, p1, p2⟩ := sfCells_some (Ha.out.below hb.out) hs
      obtain ⟨b', o', rfl, hbw', q0, q1, q2⟩ := sfCells_some (Ha'.out.below hb.out) hs
      have i0 : (0 : Int) ≤ (i : Int) := by omega
      have i1 : (i : Int) < (l.length : Int) := by omega
      clear hs
      go_wp2
      go_quiet (fail)
      go_wp2
      go_roundw
      case rel => exact ⟨i + 1, by omega, by go_num, Lib.hid (below_drewN hb.out _)⟩
      case measure => simp [intOf]; omega
    · obtain rfl : i = l.length := by omega
      have dlt : decide (l.length < l.length) = false := decide_eq_false (by omega)
      go_wp2
      go_ret
      exact ⟨rfl, hb.out⟩
def DrawnC (w : World) (e : Ending) (w' : World) : Prop := ∃ G a c L, e = .returned (.tuple #[.int .i64 G, .slice a (L : List (List Int)).length c]) ∧ -10 ≤ G ∧ G ≤ 10 ∧ L.length ≤ 4 ∧ (∀ p ∈ L, p.length ≤ 10) ∧ GridAt w' a L ∧ Below w.heap.size w w'
set_option maxRecDepth 10000 in
set_option maxHeartbeats 2000000 in
theorem drawCoverOf (a : Option Addr) (c : Nat) (l : List Int) (w : World) (ha : RowAt w a (byteCells l)) (hb : ∀ x ∈ l, 0 ≤ x ∧ x ≤ 255) (hsz : l.length ≤ 1048576) :
    Calls Tryz.prog 5 #[.slice a l.length c] w (DrawnC w) := by
  go_enter Tryz.func5, Tryz.ntmps5
  go_wp2_with fail
  refine (l1New a c l w ha hb hsz).mono ?_
  rintro e w1 ⟨g, rfl, hgl, hc, hb1⟩
  have Hb1 := Lib.hid hb1
  go_wp2_with fail
  refine (l9Draw g w1 hc).mono ?_
  rintro e w2 ⟨G, ra, rc, L, rfl, hG0, hG1, h4, hp, hg, hcur⟩
  have Hg := Lib.hid (hg w2 (World.grownBy.refl _ _)); have Hbb := Lib.hid (belowM Hb1.out hcur.2 hgl); have Hp := Lib.hid hp
  clear hg hcur hc hb1 hp
  go_wp2
  go_ret2
  exact ⟨G, ra, rc, L, rfl, hG0, hG1, h4, Hp.out, Hg.out, Hbb.out⟩
set_option maxRecDepth 10000 in
set_option maxHeartbeats 2000000 in
theorem drawActWord (a : Option Addr) (c : Nat) (l : List Int) (w : World) (ha : RowAt w a (byteCells l)) (hb : ∀ x ∈ l, 0 ≤ x ∧ x ≤ 255) (hsz : l.length ≤ 1048576) :
    Calls Tryz.prog 8 #[.slice a l.length c] w fun e w' => ∃ ra rc L rb rd m, e = .returned (.tuple #[.slice ra (L : List (List Int)).length rc, .slice rb (m : List Int).length rd]) ∧ L.length ≤ 4 ∧ (∀ p ∈ L, p.length ≤ 10) ∧ GridAt w' ra L ∧ m.length ≤ 6 ∧ RowAt w' rb (intCells m) ∧ Below w.heap.size w w' := by
  go_enter Tryz.func8, Tryz.ntmps8
  go_wp2_with fail
  refine (l1New a c l w ha hb hsz).mono ?_
  rintro e w1 ⟨g, rfl, hgl, hc, hb1⟩
  have Hb1 := Lib.hid hb1
  go_wp2_with fail
  refine (l9Draw g w1 hc).mono ?_
  rintro e w2 ⟨G, ra, rc, L, rfl, hG0, hG1, h4, hp, hg, hcur⟩
  have Hg := Lib.hid hg; have Hcur := Lib.hid hcur; have Hp := Lib.hid hp
  clear hg hcur hc hb1 hp
  go_wp2_with fail
  refine (l2Draw g 6 2 6 w2 Hcur.out.1 (by omega) (by omega) (by omega) rfl).mono ?_
  intro e w3 hbent
  obtain ⟨rb, rd, m, rfl, _, hrow, hm, _, hc3, hg3⟩ := hbent.row
  have Hg3 := Lib.hid (Hg.out w3 hg3); have Hbb := Lib.hid (belowM Hb1.out (Hcur.out.2.trans hg3) hgl); have Hrow := Lib.hid hrow
  clear hbent hc3 hg3 hrow
  go_wp2
  go_ret2
  exact ⟨ra, rc, L, rb, rd, m, rfl, h4, Hp.out, Hg3.out, hm, Hrow.out, Hbb.out⟩
set_option maxRecDepth 10000 in
set_option maxHeartbeats 2000000 in
theorem drawCountActions (a : Option Addr) (c : Nat) (l : List Int) (w : World) (ha : RowAt w a (byteCells l)) (hb : ∀ x ∈ l, 0 ≤ x ∧ x ≤ 255) (hsz : l.length ≤ 1048576) :
    Calls Tryz.prog 11 #[.slice a l.length c] w fun e w' => ∃ A n, e = .returned (.tuple #[.int .i64 A, .int .i64 n]) ∧ -1 ≤ A ∧ A ≤ 3 ∧ 0 ≤ n ∧ n ≤ 3 ∧ Below w.heap.size w w' := by
  go_enter Tryz.func11, Tryz.ntmps11
  go_wp2_with fail
  refine (l1New a c l w ha hb hsz).mono ?_
  rintro e w1 ⟨g, rfl, hgl, hc, hb1⟩
  have Hb1 := Lib.hid hb1
  go_wp2_with fail
  refine (l1Below g 4 w1 hc (by omega) (by omega)).mono ?_
  rintro e w2 ⟨⟨x, rfl, hx0, hx1⟩, hc2, hg2⟩
  have Hc2 := Lib.hid hc2; have Hg2 := Lib.hid hg2
  clear hc hb1 hc2 hg2
  go_wp2_with fail
  refine (l1Once g 9 w2 Hc2.out (by omega) (by omega)).mono ?_
  rintro e w3 ⟨⟨b, rfl⟩, hc3, hg3⟩
  have Hc3 := Lib.hid hc3; have Hg3 := Lib.hid (Hg2.out.trans hg3)
  clear hc3 hg3
  go_wp2_with fail
  refine (case_l1Bit b _).mono ?_
  rintro e w4 ⟨⟨n1, hn1, rfl⟩, hw4⟩
  rw [hw4]; clear hw4
  have hwx : IntKind.i64.wrap (x - (n1 : Int)) = x - (n1 : Int) := wrap_small (by omega) (by omega)
  go_wp2_with fail
  refine (l1Below g 4 w3 Hc3.out (by omega) (by omega)).mono ?_
  rintro e w5 ⟨⟨y, rfl, hy0, hy1⟩, hc5, hg5⟩
  have Hbb := Lib.hid (belowM Hb1.out (Hg3.out.trans hg5) hgl)
  clear hc5 hg5
  go_wp2
  go_ret2
  exact ⟨x - (n1 : Int), y, by first | rfl | simp [*], by omega, by omega, hy0, by omega, Hbb.out⟩
end Go.Proofs.YtamgimdjnmcpaaaGreat
