/-
  The walks of the model's draws for the law on words.
-/
import Derived.Test.YtapclpfhpmmbjaaBase
import Derived.Test.YtapclpfhpmmbjaaSlice
import Derived.Test.YtapclpfhpmmbjaaInts
import Derived.Test.YtapclpfhpmmbjaaWord
import Derived.Test.YtapclpfhpmmbjaaIsWord
import Derived.Test.YtapclpfhpmmbjaaReduce
import Derived.Test.YtapclpfhpmmbjaaReduceSpec
import Derived.Test.YtapclpfhpmmbjaaAppend
import Derived.Test.YtapclpfhpmmbjaaBytes
import Derived.Test.YtapclpfhpmmbjaaWordText
import Derived.Test.YtapclpfhpmmbjaaConcat
import Derived.Test.YtapclpfhpmmbjaaTurn
import Derived.Test.YtapclpfhpmmbjaaInvert
import Derived.Test.YtapclpfhpmmbjaaDraw
import Derived.Test.YtapclpfhpmmbjaaDrawWord
import Derived.Deep.RegionWith
namespace Go.Proofs.Ytapclpfhpmmbjaa
open Go.RowKit

/-- A text of so many bytes at most; the cursor goes on. -/
def TextOut (w : World) (g n : Nat) (e : Ending) (w' : World) : Prop := ∃ t : ByteArray, e = .returned (.string t) ∧ t.size ≤ n ∧ CurAt w' g ∧ w.grownBy w' (some g)

set_option maxRecDepth 10000 in
set_option maxHeartbeats 1000000 in
theorem l1Turned (g gl c : Nat) (s : ByteArray) (l : List ByteArray) (w : World) (hc : CurAt w g) (hk : Blk w gl 9 (textCells l).toArray) (hne : gl ≠ g) (h0 : 0 < l.length) (hn : l.length ≤ 1000) (hs : s.size ≤ 1000) (hl : ∀ x ∈ l, x.size ≤ 100) :
    Calls Try.prog 46 #[.pointer (some ⟨g, 0, none⟩), .string s, .slice (some ⟨gl, 0, none⟩) l.length c] w (TextOut w g 3000) := by
  have Hl := Lib.hid hl; clear hl
  go_enter Try.func46, Try.ntmps46
  go_wp2_with fail
  refine (l1Below g ((s.size : Int) + 1) w hc (by omega) (by omega)).mono ?_
  rintro e w1 ⟨⟨x, rfl, hx0, hx1⟩, hc1, hg1⟩
  have hk1 := hk.grown hg1 (by simpa using hne)
  obtain ⟨i, rfl⟩ := Int.eq_ofNat_of_zero_le hx0
  have hi : i ≤ s.size := by omega
  go_wp2_with fail
  refine (l1Below g 6 w1 hc1 (by omega) (by omega)).mono ?_
  rintro e w2 ⟨⟨y, rfl, hy0, hy1⟩, hc2, hg2⟩
  have hk2 := hk1.grown hg2 (by simpa using hne)
  have hgw := hg1.trans hg2
  have Hgw := Lib.hid hgw
  have Hk2 := Lib.hid hk2
  clear hk hk1 hk2 hgw
  have hsz1 : (s.extract 0 i).size ≤ 1000 := by simp [ByteArray.size_extract]; omega
  have hsz2 : (s.extract i s.size).size ≤ 1000 := by simp [ByteArray.size_extract]; omega
  have hii : (0 : Int) ≤ (i : Int) := by omega
  have his : (i : Int) ≤ (s.size : Int) := by omega
  by_cases hyz : y = 0
  · have hb0 : (y == 0) = true := by rw [beq_iff_eq]; exact hyz
    have Hsz1 := Lib.hid hsz1; have Hsz2 := Lib.hid hsz2
    go_wp2
    go_region_with (go_at_call 64; refine (l1Pick g gl c l _ (hc2.below (below_drewN (Below.refl _ w2) 1)) (Hk2.out.drewN 1) hne h0 hn).mono ?_; rintro e w3 ⟨⟨v, hv, rfl⟩, hc3, hg3⟩; obtain ⟨y2, hy2, rfl⟩ := List.mem_map.1 hv; have hys := Hl.out y2 hy2; have Hy2 := Lib.hid hy2; clear hv hy2)
    all_goals go_wp2
    all_goals
      go_ret
      refine ⟨s.extract 0 i ++ y2 ++ s.extract i s.size, rfl, ?_, hc3, (only_drewN Hgw.out 1).trans hg3⟩
      have h1 := Hsz1.out
      have h2 := Hsz2.out
      rw [ByteArray.size_append, ByteArray.size_append]; omega
  · have hb0 : (y == 0) = false := by rw [beq_eq_false_iff_ne]; exact hyz
    by_cases hyo : y = 1
    · have hb1 : (y == 1) = true := by rw [beq_iff_eq]; exact hyo
      have Hsz1 := Lib.hid hsz1
      clear hsz1 hsz2
      go_wp2
      go_ret
      exact ⟨_, rfl, Nat.le_trans Hsz1.out (by decide), hc2, Hgw.out⟩
    · have hb1 : (y == 1) = false := by rw [beq_eq_false_iff_ne]; exact hyo
      clear hsz1 hsz2
      go_wp2
      go_ret
      exact ⟨_, rfl, by omega, hc2, Hgw.out⟩

/-- A word that is drawn. -/
def DrawnW (w : World) (e : Ending) (w' : World) : Prop := ∃ a c l, e = .returned (.slice a (l : List Int).length c) ∧ l.length ≤ c ∧ RowAt w' a (intCells l) ∧ l.length ≤ 100 ∧ Small l ∧ Below w.heap.size w w'
set_option maxRecDepth 10000 in
set_option maxHeartbeats 1000000 in
theorem drawIsWord (a : Option Addr) (c : Nat) (l : List Int) (w : World) (ha : RowAt w a (byteCells l)) (hb : ∀ x ∈ l, 0 ≤ x ∧ x ≤ 255) (hsz : l.length ≤ 1048576) :
    Calls Try.prog 15 #[.slice a l.length c] w (DrawnW w) := by
  go_enter Try.func15, Try.ntmps15
  go_wp2_with fail
  refine (l1New a c l w ha hb hsz).mono ?_
  rintro e w1 ⟨g, rfl, hg, hc1, hb1⟩
  go_wp2_with fail
  refine (l2Bent g w1 hc1).mono ?_
  rintro e w2 hB
  obtain ⟨a', c', l', rfl, hle, hrow, hl', hS, hc2, hg2⟩ := hB.row
  clear hB
  go_wp2
  go_ret
  exact ⟨_, _, _, rfl, hle, hrow, by omega, hS, below_of_only hb1 hg2 hg⟩

/-- A word and a number. -/
def DrawnTurn (w : World) (e : Ending) (w' : World) : Prop := ∃ a c l n, e = .returned (.tuple #[.slice a (l : List Int).length c, .int .i64 n]) ∧ l.length ≤ c ∧ RowAt w' a (intCells l) ∧ l.length ≤ 100 ∧ Small l ∧ -9223372036854775808 ≤ n ∧ n ≤ 9223372036854775807 ∧ Below w.heap.size w w'
set_option maxRecDepth 100000 in
set_option maxHeartbeats 1000000 in
theorem drawTurnWord (a : Option Addr) (c : Nat) (l : List Int) (w : World) (ha : RowAt w a (byteCells l)) (hb : ∀ x ∈ l, 0 ≤ x ∧ x ≤ 255) (hsz : l.length ≤ 1048576) :
    Calls Try.prog 19 #[.slice a l.length c] w (DrawnTurn w) := by
  go_enter Try.func19, Try.ntmps19
  go_wp2_with fail
  refine (l1New a c l w ha hb hsz).mono ?_
  rintro e w1 ⟨g, rfl, hg, hc1, hb1⟩
  go_wp2_with fail
  refine (l2Bent g w1 hc1).mono ?_
  rintro e w2 ⟨v, l', rfl, hown, hl', hS, hc2, hg2⟩
  obtain ⟨av, cv, rfl⟩ := own_len hown
  have Hown := Lib.hid hown; clear hown
  have hg1 := hc1.lt
  go_wp2_with fail
  refine (l1PickInt g w2.heap.size 6 [0, 1, 2, -1, 7, -9223372036854775808] _ (hc2.alloc _) (Blk.new _ _ _) (by have := hc2.lt; omega) (by decide) (by decide)).mono ?_
  rintro e w3 ⟨⟨u, hu, rfl⟩, hc3, hg3⟩
  have hz : ∃ z : Int, u = .int .i64 z ∧ -9223372036854775808 ≤ z ∧ z ≤ 9223372036854775807 := by
    simp only [intCells, List.map_cons, List.map_nil, List.mem_cons, List.mem_nil_iff, or_false] at hu
    rcases hu with rfl | rfl | rfl | rfl | rfl | rfl
    · exact ⟨0, rfl, by omega, by omega⟩
    · exact ⟨1, rfl, by omega, by omega⟩
    · exact ⟨2, rfl, by omega, by omega⟩
    · exact ⟨-1, rfl, by omega, by omega⟩
    · exact ⟨7, rfl, by omega, by omega⟩
    · exact ⟨-9223372036854775808, rfl, by omega, by omega⟩
  obtain ⟨z, rfl, hz0, hz1⟩ := hz
  clear hu
  have hown3 := own_cur (Hown.out.alloc _) hg3 hg1
  obtain ⟨a3, c3, h3, hle, hf⟩ := own_fresh hown3 (intCells_len l')
  injection h3 with e1 e2 e3
  have Hfin := Lib.hid (show DrawnTurn w (.returned (.tuple #[.slice av l'.length cv, .int .i64 z])) w3 from ⟨av, cv, l', z, rfl, by rw [e3]; exact hle, by rw [e1]; exact hf.row, by omega, hS, hz0, hz1, below_of_only (below_of_only hb1 hg2 hg) ((World.grownBy_alloc _ _ _).trans hg3) hg⟩)
  clear hown3 hf e1 e2 e3 hle
  go_wp2
  go_ret2
  exact Hfin.out

/-- A text. -/
def DrawnText (w : World) (e : Ending) (w' : World) : Prop := ∃ t : ByteArray, e = .returned (.string t) ∧ t.size ≤ 3000 ∧ Below w.heap.size w w'
theorem said_len (l : List Int) : (ByteArray.mk (Word.said l).toArray).size ≤ 25 := by
  show (Word.said l).toArray.size ≤ 25
  rw [List.size_toArray]
  unfold Word.said
  split
  · split
    · simp
    · rename_i h _; rw [text_len]; have := h.2; omega
  · simp
set_option maxRecDepth 100000 in
set_option maxHeartbeats 1000000 in
theorem drawParseWord (a : Option Addr) (c : Nat) (l : List Int) (w : World) (ha : RowAt w a (byteCells l)) (hb : ∀ x ∈ l, 0 ≤ x ∧ x ≤ 255) (hsz : l.length ≤ 1048576) :
    Calls Try.prog 16 #[.slice a l.length c] w (DrawnText w) := by
  go_enter Try.func16, Try.ntmps16
  go_wp2_with fail
  refine (l1New a c l w ha hb hsz).mono ?_
  rintro e w1 ⟨g, rfl, hg, hc1, hb1⟩
  go_wp2_with fail
  refine (l2Draw g 8 3 8 w1 hc1 (by omega) (by omega) (by omega) rfl).mono ?_
  rintro e w2 hB
  obtain ⟨a', c', l', rfl, hle, hrow, hl', hS, hc2, hg2⟩ := hB.row
  clear hB
  go_wp2_with fail
  refine (spec_WordText a' c' l' w2 hrow (by omega)).mono ?_
  rintro e w3 ⟨rfl, hb3⟩
  have hsl := said_len l'
  generalize ByteArray.mk (Word.said l').toArray = t at *
  have hc3 := hc2.below hb3
  have hgt := hc3.lt
  go_wp2_with fail
  refine (l1Turned g w3.heap.size 5 t [⟨#[97]⟩, ⟨#[66]⟩, ⟨#[45]⟩, ⟨#[105]⟩, ⟨#[104]⟩] _ (hc3.alloc _) (Blk.new _ _ _) (by omega) (by decide) (by decide) (by omega) (by decide +kernel)).mono ?_
  rintro e w4 ⟨t', rfl, ht', hc4, hg4⟩
  have hb2 := below_of_only hb1 hg2 hg
  have hb3' := hb2.trans (hb3.mono hb2.size)
  go_wp2
  go_ret
  exact ⟨t', rfl, ht', below_of_only hb3' ((World.grownBy_alloc _ _ _).trans hg4) hg⟩

theorem own_later {w w' : World} {base n : Nat} {e : TypeId} {v : Value} {xs : List Value} (h : w.ownsRow base e 1 v n xs) (hb : Below w.heap.size w w') : w'.ownsRow base e 1 v n xs :=
  h.kept (only_of_below hb none) (by
    rcases h.2 with ⟨hv, _⟩ | ⟨k, cap, cur, hv, hk, _⟩
    · left; rw [hv]; rfl
    · right; rw [hv]; simp [Value.ownBlock])
theorem own_apart {w w' : World} {base n B : Nat} {row : Option Nat} {e : TypeId} {v : Value} {xs : List Value} (h : w.ownsRow base e 1 v n xs) (hg : w.grownBy w' row) (hv : ∀ k, v.ownBlock = some k → k < B) (hr : ∀ k, row = some k → B ≤ k) : w'.ownsRow base e 1 v n xs :=
  h.kept hg (by
    cases hvb : v.ownBlock with
    | none => exact .inl rfl
    | some k =>
      refine .inr ?_
      intro e
      have := hv k hvb
      have := hr k e.symm
      omega)
theorem own_rowAt {w : World} {base c : Nat} {e : TypeId} {a : Option Addr} {l : List Int} (h : w.ownsRow base e 1 (.slice a l.length c) l.length (intCells l)) : RowAt w a (intCells l) := by
  obtain ⟨a', c', h1, _, hf⟩ := own_fresh h (intCells_len l)
  injection h1 with h1
  rw [h1]; exact hf.row
/-- Two words. -/
def DrawnTwo (w : World) (e : Ending) (w' : World) : Prop := ∃ a c l a' c' l', e = .returned (.tuple #[.slice a (l : List Int).length c, .slice a' (l' : List Int).length c']) ∧ RowAt w' a (intCells l) ∧ l.length ≤ 100 ∧ RowAt w' a' (intCells l') ∧ l'.length ≤ 100 ∧ Below w.heap.size w w'
set_option maxRecDepth 100000 in
set_option maxHeartbeats 2000000 in
theorem l2Two (a : Option Addr) (c : Nat) (l : List Int) (w : World) (ha : RowAt w a (byteCells l)) (hb : ∀ x ∈ l, 0 ≤ x ∧ x ≤ 255) (hsz : l.length ≤ 1048576) :
    Calls Try.prog 50 #[.slice a l.length c] w (DrawnTwo w) := by
  obtain ⟨i0, hi0, hz0, hz1, hz2⟩ := info_int_parts
  have Hi0 := Lib.hid hi0; have Hz0 := Lib.hid hz0; have Hz1 := Lib.hid hz1; have Hz2 := Lib.hid hz2
  clear hi0 hz0 hz1 hz2
  go_enter Try.func50, Try.ntmps50
  go_wp2_with fail
  refine (l1New a c l w ha hb hsz).mono ?_
  rintro e w1 ⟨g, rfl, hg, hc1, hb1⟩
  go_wp2_with fail
  refine (l2Bent g w1 hc1).mono ?_
  rintro e w2 ⟨v, lv, rfl, hown, hlv, hS, hc2, hg2⟩
  have hg1 := hc1.lt
  have hb2 := below_of_only hb1 hg2 hg
  obtain ⟨av, cv, rfl, hle, hf⟩ := own_fresh hown (intCells_len lv)
  have Hown := Lib.hid hown; clear hown
  have hIs := spec_IsWord av cv lv w2 hf.row (by omega)
  clear hf
  have Hb2 := Lib.hid hb2
  have tail : ∀ (wx : World), Below w.heap.size w wx → CurAt wx g → wx.ownsRow w1.heap.size 3 1 (.slice av lv.length cv) lv.length (intCells lv) → ∀ e w', Bent wx g 25 Small e w' → ∃ a' c' l', e = .returned (.slice a' (l' : List Int).length c') ∧ DrawnTwo w (.returned (.tuple #[.slice av lv.length cv, .slice a' l'.length c'])) w' := by
    intro wx hbx hcx hox e w' hB
    obtain ⟨a', c', l', rfl, hle', hrow', hl', _, _, hgB⟩ := hB.row
    have hox' := own_cur hox hgB hg1
    obtain ⟨a3, c3, h3, _, hf3⟩ := own_fresh hox' (intCells_len lv)
    injection h3 with e1 e2 e3
    exact ⟨a', c', l', rfl, av, cv, lv, a', c', l', rfl, by rw [e1]; exact hf3.row, by omega, hrow', by omega, below_of_only hbx hgB hg⟩
  have Tail := Lib.hid tail; clear tail
  by_cases hW : Word.IsW lv
  · rw [decide_eq_true hW] at hIs
    have HIs := Lib.hid hIs; have HW := Lib.hid hW; clear hIs hW
    go_wp2_with fail
    refine HIs.out.mono ?_
    rintro e w3 ⟨rfl, hb3⟩
    have hc3 := hc2.below hb3
    have hown3 := own_later Hown.out hb3
    have hb3' := hb2.trans (hb3.mono hb2.size)
    go_wp2_with fail
    refine (l1Once g 2 w3 hc3 (by omega) (by omega)).mono ?_
    rintro e w4 ⟨⟨once, rfl⟩, hc4, hg4⟩
    have hb4' := below_of_only hb3' hg4 hg
    have hown4 := own_cur hown3 hg4 hg1
    have Hown4 := Lib.hid hown4; clear hown4 hown3
    cases once with
    | false =>
      go_wp2_with fail
      refine (l2Bent g w4 hc4).mono ?_
      rintro e w5 hB
      obtain ⟨a', c', l', rfl, hfin⟩ := Tail.out w4 hb4' hc4 Hown4.out e w5 hB
      have Hfin := Lib.hid hfin; clear hfin hB
      go_wp2
      go_ret2
      exact Hfin.out
    | true =>
      have hg4lt := hc4.lt
      go_wp2_with fail
      refine (l2Draw g 3 2 3 w4 hc4 (by omega) (by omega) (by omega) rfl).mono ?_
      rintro e w5 ⟨vg, lg, rfl, howng, hlg, hLg, hc5, hg5⟩
      obtain ⟨ag, cg, rfl⟩ := own_len howng
      have hb5' := below_of_only hb4' hg5 hg
      have hown5 := own_cur Hown4.out hg5 hg1
      have Howng := Lib.hid howng
      have Hglt := Lib.hid (show ∀ k, (Value.slice ag lg.length cg).ownBlock = some k → k < w5.heap.size from fun k hk => (howng.lt k hk).2)
      have Hvlt := Lib.hid (show ∀ k, (Value.slice av lv.length cv).ownBlock = some k → k < w5.heap.size from fun k hk => (hown5.lt k hk).2)
      go_wp2_with fail
      refine (spec_l2Inverse_own ag cg lg w5 (own_rowAt howng) (by omega) hLg).mono ?_
      rintro e w6 ⟨vi, rfl, howni, hb6⟩
      have hb6' := hb5'.trans (hb6.mono hb5'.size)
      have hc6 := hc5.below hb6
      have hown6 := own_later hown5 hb6
      have howng6 := own_later Howng.out hb6
      obtain ⟨ai, ci, rfl⟩ := own_len howni
      have hg5lt := hc5.lt
      have hil : (Word.inv lg).length ≤ 3 := by rw [Word.inv_len]; omega
      generalize Word.inv lg = li at *
      have Howni := Lib.hid howni; have Hown6 := Lib.hid hown6; have Howng6 := Lib.hid howng6
      clear howni hown6 hown5 howng howng6 Howng
      go_wp2_with fail
      refine (l1Below g 5 w6 hc6 (by omega) (by omega)).mono ?_
      rintro e w7 ⟨⟨x, rfl, hx0, hx1⟩, hc7, hg7⟩
      have hown7 := own_cur Hown6.out hg7 hg1
      have howni7 := own_cur Howni.out hg7 hg5lt
      have howng7 := own_cur Howng6.out hg7 hg4lt
      have hb7' := below_of_only hb6' hg7 hg
      have Hown7 := Lib.hid hown7; have Howni7 := Lib.hid howni7; have Howng7 := Lib.hid howng7
      have Hc7 := Lib.hid hc7
      clear Hown6 Howni Howng6 hown7 howni7 howng7 hc7
      have HT := Lib.hid (spec_l2Turn av cv lv x w7 (own_rowAt Hown7.out) (by omega) hle (by omega) (by omega))
      have htl := Word.turn_len lv x
      generalize Word.turn lv x = lt at *
      have hlt25 : lt.length ≤ 25 := by omega
      clear htl
      go_wp2_with fail
      refine HT.out.mono ?_
      rintro e w8 ⟨ta, tc, rfl, _, _, hft, hb8⟩
      have howni8 := own_later Howni7.out hb8
      have hb8' := hb7'.trans (hb8.mono hb7'.size)
      have hrowt := hft.row
      have Hown8 := Lib.hid (own_later Hown7.out hb8); have Howng8 := Lib.hid (own_later Howng7.out hb8)
      have hc8 := Lib.hid (Hc7.out.below hb8)
      have hsz5 : w5.heap.size ≤ w8.heap.size := Nat.le_trans (Nat.le_trans hb6.size hg7.size) hb8.size
      have hsz1 : w1.heap.size ≤ w5.heap.size := Nat.le_trans (Nat.le_trans (Nat.le_trans (Nat.le_trans hg2.size hb3.size) hg4.size) (Nat.le_refl _)) hg5.size
      have hsz4 : w4.heap.size ≤ w5.heap.size := hg5.size
      have hszw : w.heap.size ≤ w5.heap.size := Nat.le_trans hb1.size hsz1
      have hq1 : li.length + lt.length ≤ maxLen := by unfold maxLen; omega
      have hq2 : (li.length + lt.length) * 8 ≤ 140737488355328 := by omega
      have hq3 : li.length + lt.length + lg.length ≤ maxLen := by unfold maxLen; omega
      have hq4 : (li.length + lt.length + lg.length) * 8 ≤ 140737488355328 := by omega
      clear hft Hown7 Howni7 Howng7 Hc7
      by_cases h24 : li.length + lt.length + lg.length ≤ 24
      · have h24' : ((li.length : Int) + (lt.length : Int) + (lg.length : Int)) ≤ 24 := by omega
        go_wp2_with (first
          | (at_builtin; refine append_row rfl (.tmp 21) (.tmp 25) 24 rfl w5.heap.size 3 i0 _ 8 Try.underlying24 Hi0.out Hz0.out Hz1.out Hz2.out (by rfl) _ _ _ rfl howni8 _ _ _ _ rfl hrowt (intCells_len _) (intCells_one _) hq1 hq2 hsz5 ?_; intro v1 w9 hown9 hg9; have hv9 : ∀ k, (Value.slice ai li.length ci).ownBlock = some k → w5.heap.size ≤ k := fun k hk => (howni8.lt k hk).1; obtain ⟨a9, c9, rfl⟩ := own_len hown9)
          | (at_builtin; refine append_row rfl (.tmp 26) (.tmp 27) 24 rfl w5.heap.size 3 i0 _ 8 Try.underlying24 Hi0.out Hz0.out Hz1.out Hz2.out (by rfl) _ _ _ rfl hown9 _ _ _ _ rfl (own_rowAt (own_apart Howng8.out hg9 Hglt.out hv9)) (intCells_len _) (intCells_one _) hq3 hq4 (Nat.le_trans hsz5 hg9.size) ?_; intro v2 w10 hown10 hg10; obtain ⟨a10, c10, rfl⟩ := own_len hown10))
        have hv10 : ∀ k, (Value.slice a9 (li.length + lt.length) c9).ownBlock = some k → w5.heap.size ≤ k := fun k hk => (hown9.lt k hk).1
        have hb9' := Below.grown hb8' hg9 hb8'.size (fun k hk => by have := hv9 k hk; omega)
        have hb10' := Below.grown hb9' hg10 hb9'.size (fun k hk => by have := hv10 k hk; omega)
        have Hownv := Lib.hid (own_apart (own_apart Hown8.out hg9 Hvlt.out hv9) hg10 Hvlt.out hv10)
        have hc10 := Lib.hid ((hc8.out.above hg9 (fun k hk => by have := hv9 k hk; omega)).above hg10 (fun k hk => by have := hv10 k hk; omega))
        have hX : intCells li ++ intCells lt ++ intCells lg = intCells (li ++ lt ++ lg) := by simp [intCells]
        rw [hX] at hown10
        have hXl : (li ++ lt ++ lg).length = li.length + lt.length + lg.length := by rw [List.length_append, List.length_append]
        rw [← hXl] at hown10
        have Hfin := Lib.hid (show DrawnTwo w (.returned (.tuple #[.slice av lv.length cv, .slice a10 (li.length + lt.length + lg.length) c10])) w10 from ⟨av, cv, lv, a10, c10, li ++ lt ++ lg, by rw [hXl], own_rowAt Hownv.out, by omega, own_rowAt hown10, by rw [hXl]; omega, hb10'⟩)
        have Hb10 := Lib.hid hb10'
        clear hown10 hX hXl hb10' hb9' hv10 hv9 hown9 howni8 hrowt
        go_ret2
        exact Hfin.out
      · have h24' : 24 < (li.length : Int) + (lt.length : Int) + (lg.length : Int) := by omega
        go_wp2_with (first
          | (at_builtin; refine append_row rfl (.tmp 21) (.tmp 25) 24 rfl w5.heap.size 3 i0 _ 8 Try.underlying24 Hi0.out Hz0.out Hz1.out Hz2.out (by rfl) _ _ _ rfl howni8 _ _ _ _ rfl hrowt (intCells_len _) (intCells_one _) hq1 hq2 hsz5 ?_; intro v1 w9 hown9 hg9; have hv9 : ∀ k, (Value.slice ai li.length ci).ownBlock = some k → w5.heap.size ≤ k := fun k hk => (howni8.lt k hk).1; obtain ⟨a9, c9, rfl⟩ := own_len hown9)
          | (at_builtin; refine append_row rfl (.tmp 26) (.tmp 27) 24 rfl w5.heap.size 3 i0 _ 8 Try.underlying24 Hi0.out Hz0.out Hz1.out Hz2.out (by rfl) _ _ _ rfl hown9 _ _ _ _ rfl (own_rowAt (own_apart Howng8.out hg9 Hglt.out hv9)) (intCells_len _) (intCells_one _) hq3 hq4 (Nat.le_trans hsz5 hg9.size) ?_; intro v2 w10 hown10 hg10; obtain ⟨a10, c10, rfl⟩ := own_len hown10))
        have hv10 : ∀ k, (Value.slice a9 (li.length + lt.length) c9).ownBlock = some k → w5.heap.size ≤ k := fun k hk => (hown9.lt k hk).1
        have hb9' := Below.grown hb8' hg9 hb8'.size (fun k hk => by have := hv9 k hk; omega)
        have hb10' := Below.grown hb9' hg10 hb9'.size (fun k hk => by have := hv10 k hk; omega)
        have Hownv := Lib.hid (own_apart (own_apart Hown8.out hg9 Hvlt.out hv9) hg10 Hvlt.out hv10)
        have hc10 := Lib.hid ((hc8.out.above hg9 (fun k hk => by have := hv9 k hk; omega)).above hg10 (fun k hk => by have := hv10 k hk; omega))
        have hX : intCells li ++ intCells lt ++ intCells lg = intCells (li ++ lt ++ lg) := by simp [intCells]
        rw [hX] at hown10
        have hXl : (li ++ lt ++ lg).length = li.length + lt.length + lg.length := by rw [List.length_append, List.length_append]
        rw [← hXl] at hown10
        have Hfin := Lib.hid (show DrawnTwo w (.returned (.tuple #[.slice av lv.length cv, .slice a10 (li.length + lt.length + lg.length) c10])) w10 from ⟨av, cv, lv, a10, c10, li ++ lt ++ lg, by rw [hXl], own_rowAt Hownv.out, by omega, own_rowAt hown10, by rw [hXl]; omega, hb10'⟩)
        have Hb10 := Lib.hid hb10'
        clear hown10 hX hXl hb10' hb9' hv10 hv9 hown9 howni8 hrowt
        refine (l2Bent g w10 hc10.out).mono ?_
        rintro e w11 hB
        obtain ⟨a', c', l', rfl, hfin⟩ := Tail.out w10 Hb10.out hc10.out Hownv.out e w11 hB
        have Hfin2 := Lib.hid hfin; clear hfin hB
        go_wp2
        go_ret2
        exact Hfin2.out
  · rw [decide_eq_false hW] at hIs
    have HIs := Lib.hid hIs; clear hIs hW
    go_wp2_with fail
    refine HIs.out.mono ?_
    rintro e w3 ⟨rfl, hb3⟩
    have hc3 := hc2.below hb3
    have hown3 := own_later Hown.out hb3
    have hb3' := hb2.trans (hb3.mono hb2.size)
    go_wp2_with fail
    refine (l2Bent g w3 hc3).mono ?_
    rintro e w5 hB
    obtain ⟨a', c', l', rfl, hfin⟩ := Tail.out w3 hb3' hc3 hown3 e w5 hB
    have Hfin := Lib.hid hfin; clear hfin hB
    go_wp2
    go_ret2
    exact Hfin.out

set_option maxRecDepth 10000 in
set_option maxHeartbeats 400000 in
theorem drawAreConjugate (a : Option Addr) (c : Nat) (l : List Int) (w : World) (ha : RowAt w a (byteCells l)) (hb : ∀ x ∈ l, 0 ≤ x ∧ x ≤ 255) (hsz : l.length ≤ 1048576) :
    Calls Try.prog 20 #[.slice a l.length c] w (DrawnTwo w) := by
  have H := Lib.hid (l2Two a c l w ha hb hsz)
  go_enter Try.func20, Try.ntmps20
  go_wp2_with fail
  refine H.out.mono ?_
  rintro e w1 ⟨a1, c1, l1, a2, c2, l2, rfl, h1, h2, h3, h4, h5⟩
  go_wp2
  go_ret2
  exact ⟨a1, c1, l1, a2, c2, l2, rfl, h1, h2, h3, h4, h5⟩
end Go.Proofs.Ytapclpfhpmmbjaa
