/-
  The walks of the model's cursor over a draw's bytes: it gives numbers within its bounds, and turns its own block alone.
-/
import Derived.Test.YtehibigjdbpikaaGreatDoorBase
import Derived.Test.YtehibigjdbpikaaGreatDoorSlice
import Derived.Test.YtehibigjdbpikaaGreatDoorIntRow
import Derived.Deep.QuietTactic
import Derived.BigQuiet
import Derived.Laws.BitsAllLaws
import Derived.Laws.BitsLemmas
namespace Go.Proofs.YtehibigjdbpikaaGreatDoor
open Go.RowKit

def byteCells (l : List Int) : List Value := l.map (Value.int .u8)
/-- The cursor in block g: the bytes, a place, a number. -/
def CurAt (w : World) (g : Nat) : Prop := ∃ (a : Option Addr) (c : Nat) (l : List Int) (i : Nat) (h : Int), Blk w g 96 #[.slice a l.length c, .int .i64 i, .int .i64 h] ∧ RowAt w a (byteCells l) ∧ (∀ x ∈ l, 0 ≤ x ∧ x ≤ 255) ∧
  i ≤ l.length ∧ l.length ≤ 9223372036854775807 ∧ (byteCells l ≠ [] → ∀ b o, a = some ⟨b, o, none⟩ → b < g)
/-- A number of so many is returned. -/
def Num0 (n : Int) (e : Ending) : Prop := ∃ x : Int, e = .returned (.int .i64 x) ∧ 0 ≤ x ∧ x < n
theorem and_byte (z : Int) : 0 ≤ bits .and .i64 z 255 ∧ bits .and .i64 z 255 < 256 := by
  have h : (BitVec.ofInt 64 z &&& BitVec.ofInt 64 255).toNat ≤ 255 := by
    rw [BitVec.toNat_and]
    exact Nat.and_le_right
  have e : bits .and .i64 z 255 = IntKind.i64.wrap ((BitVec.ofInt 64 z &&& BitVec.ofInt 64 255).toNat : Int) := rfl
  rw [e, IntKind.wrap_i64]
  omega
theorem byteCells_at {w : World} {a : Option Addr} {l : List Int} (h : RowAt w a (byteCells l)) {i : Nat} (hi : i < l.length) : ∃ b o, a = some ⟨b, o, none⟩ ∧ b < w.heap.size ∧ w.cell? ⟨b, o + i, none⟩ = some (.int .u8 l[i]) := by
  obtain ⟨b, o, rfl, hb, hc⟩ := h.at (i := i) (by simpa [byteCells] using hi)
  exact ⟨b, o, rfl, hb, hc i _ (by simp [byteCells, hi])⟩
theorem row_far {w w' : World} {a : Option Addr} {cs : List Value} {g : Nat} (h : RowAt w a cs) (ho : w.grownBy w' (some g)) (hne : cs ≠ [] → ∀ b o, a = some ⟨b, o, none⟩ → b ≠ g) : RowAt w' a cs := by
  rcases h with h | ⟨b, o, rfl, hlt, hc⟩
  · exact Or.inl h
  · by_cases h0 : cs = []
    · exact Or.inl h0
    · exact Or.inr ⟨b, o, rfl, Nat.lt_of_lt_of_le hlt ho.size, fun i v hv => ho.cell (hc i v hv) (fun e => hne h0 b o rfl (by injection e))⟩
theorem only_drewN {a w : World} {row : Option Nat} (h : a.grownBy w row) (n : Nat) : a.grownBy (w.drewN n) row := ⟨h.os, h.tape, h.output, h.size, h.block⟩
theorem only_drew {a w : World} {row : Option Nat} (h : a.grownBy w row) : a.grownBy w.drew row := ⟨h.os, h.tape, h.output, h.size, h.block⟩

set_option maxRecDepth 10000 in
set_option maxHeartbeats 1000000 in
theorem l1Byte (g : Nat) (w : World) (hc : CurAt w g) :
    Calls Tryz.prog 116 #[.pointer (some ⟨g, 0, none⟩)] w fun e w' => Num0 256 e ∧ CurAt w' g ∧ w.grownBy w' (some g) := by
  obtain ⟨a, c, l, i, h, hk, hr, hl, h1, h2, hne⟩ := hc
  have c0 : w.cell? ⟨g, 0, none⟩ = some (.slice a l.length c) := hk.cell 0
  have c1 : w.cell? ⟨g, 1, none⟩ = some (.int .i64 i) := hk.cell 1
  have c2 : w.cell? ⟨g, 2, none⟩ = some (.int .i64 h) := hk.cell 2
  have f1 := hk.frozen 1
  have f2 := hk.frozen 2
  have Hk := Lib.hid hk; clear hk
  have Hl := Lib.hid hl; have Hne := Lib.hid hne; clear hl hne
  by_cases hlt : i < l.length
  · obtain ⟨b, o, rfl, hbw, hcell⟩ := byteCells_at hr hlt
    have hbg : b ≠ g := Nat.ne_of_lt <| Hne.out (by intro e; rw [byteCells, List.map_eq_nil_iff] at e; rw [e] at hlt; simp at hlt) b o rfl
    have hx := Hl.out l[i] (List.getElem_mem hlt)
    generalize l[i] = x at hcell hx
    have hi0 : (0 : Int) ≤ (i : Int) := by omega
    have hi1 : (i : Int) < (l.length : Int) := by omega
    go_enter Tryz.func116, Tryz.ntmps116
    go_wp2
    go_quiet (fail)
    go_wp2
    go_quiet (fail)
    go_wp2
    go_quiet (fail)
    go_wp2
    go_ret
    refine ⟨⟨_, rfl, and_byte _⟩, ⟨some ⟨b, o, none⟩, c, l, i + 1, wrap64 (wrap64 (h * 6364136223846793005) + 1442695040888963407), ?_, row_far hr ?_ (fun h b o e => Nat.ne_of_lt (Hne.out h b o e)), Hl.out, by omega, h2, Hne.out⟩, ?_⟩
    · refine (Blk.put (cs := #[.slice (some ⟨b, o, none⟩) l.length c, .int .i64 i, .int .i64 (wrap64 (wrap64 (h * 6364136223846793005) + 1442695040888963407))]) ?_ 1 _)
      repeat (first | apply Blk.drewN | apply Blk.drew)
      exact Hk.out.put 2 _
    all_goals
      refine only_setCell ?_ (Or.inl rfl) _
      repeat (first | apply only_drewN | apply only_drew)
      exact only_setCell (World.grownBy.refl _ _) (Or.inl rfl) _
  · have hge : (l.length : Int) ≤ (i : Int) := by omega
    go_enter Tryz.func116, Tryz.ntmps116
    go_wp2
    go_quiet (fail)
    go_wp2
    go_quiet (fail)
    go_wp2
    go_ret
    refine ⟨⟨_, rfl, and_byte _⟩, ⟨a, c, l, i, wrap64 (wrap64 (h * 6364136223846793005) + 1442695040888963407), ?_, row_far hr ?_ (fun h b o e => Nat.ne_of_lt (Hne.out h b o e)), Hl.out, h1, h2, Hne.out⟩, ?_⟩
    · repeat (first | apply Blk.drewN | apply Blk.drew)
      exact Hk.out.put 2 _
    all_goals
      repeat (first | apply only_drewN | apply only_drew)
      exact only_setCell (World.grownBy.refl _ _) (Or.inl rfl) _
theorem CurAt.lt {w : World} {g : Nat} (h : CurAt w g) : g < w.heap.size := by
  obtain ⟨a, c, l, i, h, hk, _⟩ := h
  exact hk.lt
theorem CurAt.alloc {w : World} {g : Nat} (h : CurAt w g) (o : Obj) : CurAt (w.alloc o) g := by
  obtain ⟨a, c, l, i, h, hk, hr, rest⟩ := h
  exact ⟨a, c, l, i, h, hk.alloc o, hr.below ((Below.refl _ _).alloc (Nat.le_refl _) o), rest⟩
theorem CurAt.below {w w' : World} {g : Nat} (h : CurAt w g) (hb : Below w.heap.size w w') : CurAt w' g := by
  have hlt := h.lt
  obtain ⟨a, c, l, i, h, hk, hr, rest⟩ := h
  exact ⟨a, c, l, i, h, hk.below hb hlt, hr.below hb, rest⟩
/-- The cursor, where what turned lies above it. -/
theorem CurAt.above {w w' : World} {g : Nat} {row : Option Nat} (h : CurAt w g) (hg : w.grownBy w' row) (hr : ∀ k, row = some k → g < k) : CurAt w' g := by
  obtain ⟨a, c, l, i, h, hk, hrow, hl, h1, h2, hne⟩ := h
  refine ⟨a, c, l, i, h, hk.grown hg (fun e => by have := hr g e.symm; omega), ?_, hl, h1, h2, hne⟩
  cases hrw : row with
  | none => exact hrow.below (by subst hrw; exact ⟨hg.os, hg.tape, hg.output, hg.size, fun k hk => hg.block k hk (by simp)⟩)
  | some k => subst hrw; exact row_far hrow hg (fun h b o e => by have := hne h b o e; have := hr k rfl; omega)
/-- What a call over the cursor comes to: its answer, the cursor, nothing else turned. -/
def Drawn (w : World) (g : Nat) (A : Ending → Prop) (e : Ending) (w' : World) : Prop := A e ∧ CurAt w' g ∧ w.grownBy w' (some g)

set_option maxRecDepth 10000 in
set_option maxHeartbeats 1000000 in
theorem l1Below (g : Nat) (n : Int) (w : World) (hc : CurAt w g) (h0 : 0 < n) (hn : n ≤ 4294967296) :
    Calls Tryz.prog 72 #[.pointer (some ⟨g, 0, none⟩), .int .i64 n] w (Drawn w g (Num0 n)) := by
  have h0' : ¬ n ≤ 0 := by omega
  have hz : ¬ n = 0 := by omega
  have hz1 : (n == 0) = false := by rw [beq_eq_false_iff_ne]; omega
  by_cases h256 : n ≤ 256
  · go_enter Tryz.func72, Tryz.ntmps72
    go_wp2_with fail
    refine (l1Byte g w hc).mono ?_
    rintro e w1 ⟨⟨x, rfl, hx0, hx1⟩, hc1, hg1⟩
    go_wp2
    go_ret
    exact ⟨⟨_, rfl, Int.emod_nonneg _ hz, Int.emod_lt_of_pos _ h0⟩, hc1, hg1⟩
  · go_enter Tryz.func72, Tryz.ntmps72
    go_wp2_with fail
    refine (l1Byte g w hc).mono ?_
    rintro e w1 ⟨⟨x, rfl, hx0, hx1⟩, hc1, hg1⟩
    go_wp2_with fail
    refine (l1Byte g w1 hc1).mono ?_
    rintro e w2 ⟨⟨y, rfl, hy0, hy1⟩, hc2, hg2⟩
    go_wp2_with fail
    refine (l1Byte g w2 hc2).mono ?_
    rintro e w3 ⟨⟨z, rfl, hz0, hz1⟩, hc3, hg3⟩
    go_wp2_with fail
    refine (l1Byte g w3 hc3).mono ?_
    rintro e w4 ⟨⟨u, rfl, hu0, hu1⟩, hc4, hg4⟩
    go_wp2
    go_ret
    exact ⟨⟨_, rfl, Int.emod_nonneg _ hz, Int.emod_lt_of_pos _ h0⟩, hc4, ((hg1.trans hg2).trans hg3).trans hg4⟩

/-- A new cursor over what stands at a. -/
def NewCur (w : World) (e : Ending) (w' : World) : Prop := ∃ g, e = .returned (.pointer (some ⟨g, 0, none⟩)) ∧ w.heap.size ≤ g ∧ CurAt w' g ∧ Below w.heap.size w w'
set_option maxRecDepth 100000 in
set_option maxHeartbeats 1000000 in
theorem l1New (a : Option Addr) (c : Nat) (l : List Int) (w : World) (ha : RowAt w a (byteCells l)) (hb : ∀ x ∈ l, 0 ≤ x ∧ x ≤ 255) (hsz : l.length ≤ 1048576) :
    Calls Tryz.prog 63 #[.slice a l.length c] w (NewCur w) := by
  have Hb := Lib.hid hb; clear hb
  have Ha := Lib.hid ha
  go_enter Tryz.func63, Tryz.ntmps63
  go_wp2
  go_loop [3, 4] (fun hv iv => ∃ i : Nat, ∃ h : Int, i ≤ l.length ∧ iv = .int .i64 i ∧ hv = .int .i64 h) (fun _ iv => l.length - (intOf iv).toNat)
  case atStart => exact ⟨0, _, by omega, rfl, rfl⟩
  case round =>
    obtain ⟨i, h, hi, rfl, rfl⟩ := hrel
    have fin : NewCur w (.returned (.pointer (some ⟨w.heap.size, 0, none⟩))) (w.alloc (.cells #[.slice a l.length c, .int .i64 0, .int .i64 h] 96)) := by
      have hbl : Below w.heap.size w (w.alloc (.cells #[.slice a l.length c, .int .i64 0, .int .i64 h] 96)) := (Below.refl _ _).alloc (Nat.le_refl _) _
      refine ⟨_, rfl, Nat.le_refl _, ⟨a, c, l, 0, h, Blk.new _ _ _, Ha.out.below hbl, Hb.out, Nat.zero_le _, by omega, fun h0 b o e => ?_⟩, hbl⟩
      rcases Ha.out with he | ⟨b', o', e', hlt, _⟩
      · exact absurd he h0
      · rw [e'] at e
        injection e with e
        injection e with e1 e2
        omega
    have Fin := Lib.hid fin; clear fin
    by_cases hlt : i < l.length
    · obtain ⟨b, o, rfl, hbw, hcell⟩ := byteCells_at ha hlt
      have hx := Hb.out l[i] (List.getElem_mem hlt)
      generalize l[i] = x at hcell hx
      by_cases h4 : i < 4000
      · go_wp2
        go_round
        case rel => exact ⟨i + 1, _, by omega, by go_num, rfl⟩
        case measure => simp [intOf]; omega
      · go_wp2
        go_ret
        exact Fin.out
    · go_wp2
      go_ret
      exact Fin.out

theorem Drawn.trans {w w1 : World} {g : Nat} {A : Ending → Prop} {e : Ending} {w' : World} (h1 : w.grownBy w1 (some g)) (h : Drawn w1 g A e w') : Drawn w g A e w' := ⟨h.1, h.2.1, h1.trans h.2.2⟩

def IsBool (e : Ending) : Prop := ∃ b : Bool, e = .returned (.bool b)
set_option maxRecDepth 10000 in
set_option maxHeartbeats 1000000 in
theorem l1Once (g : Nat) (n : Int) (w : World) (hc : CurAt w g) (h0 : 0 < n) (hn : n ≤ 4294967296) :
    Calls Tryz.prog 94 #[.pointer (some ⟨g, 0, none⟩), .int .i64 n] w (Drawn w g IsBool) := by
  go_enter Tryz.func94, Tryz.ntmps94
  go_wp2_with fail
  refine (l1Below g n w hc h0 hn).mono ?_
  rintro e w1 ⟨⟨x, rfl, hx0, hx1⟩, hc1, hg1⟩
  go_wp2
  go_ret
  exact ⟨⟨_, rfl⟩, hc1, hg1⟩

def OneOf (l : List Value) (e : Ending) : Prop := ∃ v, v ∈ l ∧ e = .returned v
set_option maxRecDepth 10000 in
set_option maxHeartbeats 1000000 in
theorem l1PickInt (g gl c : Nat) (l : List Int) (w : World) (hc : CurAt w g) (hk : Blk w gl 3 (intCells l).toArray) (hne : gl ≠ g) (h0 : 0 < l.length) (hn : l.length ≤ 1000) :
    Calls Tryz.prog 102 #[.pointer (some ⟨g, 0, none⟩), .slice (some ⟨gl, 0, none⟩) l.length c] w (Drawn w g (OneOf (intCells l))) := by
  go_enter Tryz.func102, Tryz.ntmps102
  go_wp2_with fail
  refine (l1Below g l.length w hc (by omega) (by omega)).mono ?_
  rintro e w1 ⟨⟨x, rfl, hx0, hx1⟩, hc1, hg1⟩
  obtain ⟨i, rfl⟩ := Int.eq_ofNat_of_zero_le hx0
  have hi : i < l.length := by omega
  have hcell : w1.cell? ⟨gl, i, none⟩ = some (.int .i64 l[i]) := by
    rw [(hk.grown hg1 (by simpa using hne)).cell i]; simp [intCells, hi]
  have hm : Value.int .i64 l[i] ∈ intCells l := List.mem_map.2 ⟨_, List.getElem_mem hi, rfl⟩
  go_wp2
  go_ret
  exact ⟨⟨_, hm, rfl⟩, hc1, hg1⟩

def textCells (l : List ByteArray) : List Value := l.map Value.string
set_option maxRecDepth 10000 in
set_option maxHeartbeats 1000000 in
theorem l1Pick (g gl c : Nat) (l : List ByteArray) (w : World) (hc : CurAt w g) (hk : Blk w gl 9 (textCells l).toArray) (hne : gl ≠ g) (h0 : 0 < l.length) (hn : l.length ≤ 1000) :
    Calls Tryz.prog 114 #[.pointer (some ⟨g, 0, none⟩), .slice (some ⟨gl, 0, none⟩) l.length c] w (Drawn w g (OneOf (textCells l))) := by
  go_enter Tryz.func114, Tryz.ntmps114
  go_wp2_with fail
  refine (l1Below g l.length w hc (by omega) (by omega)).mono ?_
  rintro e w1 ⟨⟨x, rfl, hx0, hx1⟩, hc1, hg1⟩
  obtain ⟨i, rfl⟩ := Int.eq_ofNat_of_zero_le hx0
  have hi : i < l.length := by omega
  have hcell : w1.cell? ⟨gl, i, none⟩ = some (.string l[i]) := by
    rw [(hk.grown hg1 (by simpa using hne)).cell i]; simp [textCells, hi]
  have hm : Value.string l[i] ∈ textCells l := List.mem_map.2 ⟨_, List.getElem_mem hi, rfl⟩
  go_wp2
  go_ret
  exact ⟨⟨_, hm, rfl⟩, hc1, hg1⟩
end Go.Proofs.YtehibigjdbpikaaGreatDoor
