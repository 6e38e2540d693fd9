/-
  The program's SplitByte, by the library's Split. What a loop's body keeps of an iterator's box. The walk of the model's ParseWord. The walk of the program's ParseWord (a range over a function whose body returns). The walks of the program's and the model's ParseGluing. A word's text is parsed as that word. The text of a gluing is parsed back. The walk of the model's text that may be turned, by itself (XDrawWord2 holds it beside the words' draws). append of a row to a row of the call's own. Sides and polygons that the model's draws of gluings hold. The walk of the model's draw of gluings. The walk of the model's draw of a gluing's text. Regions that draw their order, load, call and store: the operations ahead of the last ones come up in whatever order, a condition on the world held behind each of them; the last ones, each of which waits for all before it, in their own order. The walk of the model's draw of gluings that may be bent. The walks of the model's draws for the law on gluings. The laws' test whether two slices hold the same integers, and rows that are carried along. The laws' test whether two lists of rows are the same.
-/
import Derived.Test.YtpgdmbolckogcaaDoorMrgG1
import Derived.Test.YtpgdmbolckogcaaDoorMrgG3
import Derived.ChangeAgain
import Derived.RangeFuncBox
import Derived.RangeFuncLeaves
import Derived.RangeFuncNested
import Derived.Shelf.Abstract
import Derived.OwnWalkIn
import Derived.TacticsInMore
import Derived.LoopNIn
import Derived.LoopIn
import Derived.Maps.AppendAt
import Derived.Deep.RegionWith
import Derived.Deep.Upon
import Derived.Deep.AppendSrc
import Derived.Lib.SlFresh
import Derived.Deep.RegionLaw
import Derived.Deep.Cut
import Derived.StillTail
import Derived.StillTailTactics
import Derived.Deep.RegionHeld
import Derived.Deep.QuietTactic
import Derived.BigQuiet
namespace Go.Proofs.YtpgdmbolckogcaaDoor
open Go.RowKit
theorem shaped_below {P : Program} {w w' : World} (h : w.ShapedOpen P) (hb : Below w.heap.size w w') : w'.ShapedOpen P := h.keptBut (hb.frame (fun _ => False)) (fun _ h => h.elim)

set_option maxRecDepth 10000 in
theorem impl_SplitByte (s : ByteArray) (c : UInt8) (w : World) (hsh : w.ShapedOpen Tryd.prog) (hs : s.size ≤ 1048576) :
    Calls Tryd.prog 50 #[.string s, .int .u8 c.toNat] w fun e w' =>
      (∃ g, e = .returned (.slice (some ⟨g, 0, none⟩) (strCells (Split.pieces c s)).length (strCells (Split.pieces c s)).length) ∧ w.heap.size ≤ g ∧ Blk w' g 9 (strCells (Split.pieces c s)).toArray) ∧ Below w.heap.size w w' := by
  have hb0 : Below w.heap.size w (w.alloc (.cells #[.int .u8 c.toNat] 5)) := (Below.refl _ _).alloc (Nat.le_refl _) _
  have hc8 := c.toNat_lt
  have hcv := fun W => Fmt.one_byte W (c.toNat : Int) (by omega) (by omega)
  have hone : UInt8.ofNat ((c.toNat : Int)).toNat = c := by simp
  rw [hone] at hcv
  have hj := Tryd.strings_Split_shaped s ⟨#[c]⟩ _ (shaped_below hsh hb0) (by omega) (Nat.le_refl 1)
  rw [Split.lib_pieces s ⟨#[c]⟩ c rfl] at hj
  have hcount : Go.Lib.countB s ⟨#[c]⟩ + 1 = (strCells (Split.pieces c s)).length := by
    rw [← Go.Lib.splitB_all ⟨#[c]⟩ (Nat.le_refl 1) 0 _ s rfl, Split.lib_pieces s ⟨#[c]⟩ c rfl]; simp [strCells]
  rw [hcount] at hj
  have Hj := Lib.hid hj; clear hj hcount hone
  go_enter Tryd.func50, Tryd.ntmps50
  go_wp2_with fail
  refine Hj.out.mono ?_
  rintro e w' ⟨rfl, rfl⟩
  go_wp2
  go_ret
  refine ⟨⟨_, rfl, by simp, ?_⟩, (hb0.alloc (by simp) _)⟩
  have h := Blk.new (w.alloc (.cells #[.int .u8 c.toNat] 5)) 9 (strCells (Split.pieces c s)).toArray
  simpa [strCells] using h
end Go.Proofs.YtpgdmbolckogcaaDoor
namespace Go.Proofs.YtpgdmbolckogcaaDoor
open Go.RowKit

/-- What lay below n₀ lies as it lay, and the box Bn holds what it held. -/
def KB (n₀ Bn : Nat) (t : TypeId) (W W' : World) : Prop := Below n₀ W W' ∧ ∀ v, Boxed W Bn t v → Boxed W' Bn t v
theorem KB.refl (n₀ Bn : Nat) (t : TypeId) (W : World) : KB n₀ Bn t W W := ⟨Below.refl _ _, fun _ h => h⟩
theorem KB.t {n₀ Bn : Nat} {t : TypeId} {A B C : World} (h : KB n₀ Bn t A B) (k : KB n₀ Bn t B C) : KB n₀ Bn t A C := ⟨h.1.trans k.1, fun v hv => k.2 v (h.2 v hv)⟩
theorem KB.b {n₀ Bn : Nat} {t : TypeId} {w : World} (hn : n₀ ≤ w.heap.size) (W : World) (l : Nat) (o o' : Obj) (hl : w.heap.size ≤ l) (h : W.heap[l]? = some o) (hc : o.isCells = false) (hw : o.isWalk = false) : KB n₀ Bn t W (W.putObj l o') :=
  ⟨belowK_b hn W l o o' hl h hc hw, fun v hv => hv.kept (grownBy_putObj' W l o') (fun e => by
    cases e
    rw [show W.heap[Bn]? = _ from hv] at h
    cases h; cases hc)⟩
/-- Behind an append to a row of another type, and its store into another box. -/
theorem KB.appended {W w1 : World} {n₀ B Bn : Nat} {tb e : TypeId} {size : Nat} {v v' : Value} {k : Nat} {xs : List Value} {tmp : Obj} (hb : Below n₀ W (w1.setCell ⟨B, 0, none⟩ v')) (hte : tb ≠ e) (hrow : W.ownsRow n₀ e size v k xs) (hgrow : (W.alloc tmp).grownBy w1 v.ownBlock) (hne : Bn ≠ B) : KB n₀ Bn tb W (w1.setCell ⟨B, 0, none⟩ v') :=
  ⟨hb, fun u hu => (((hu.alloc tmp).kept hgrow (hu.not_row hte hrow)).other hne v')⟩
/-- The integers at a, in blocks below n₀. -/
def IntsAt (W : World) (n₀ : Nat) (a : Option Addr) (L : List Int) : Prop := ∀ j (h : j < L.length), ∃ b o, a = some ⟨b, o, none⟩ ∧ b < n₀ ∧ W.cell? ⟨b, o + j, none⟩ = some (.int .i64 L[j])
theorem IntsAt.of {w W : World} {n₀ : Nat} {a : Option Addr} {L : List Int} (h : RowAt w a (intCells L)) (hb : Below w.heap.size w W) (hn : w.heap.size ≤ n₀) : IntsAt W n₀ a L := fun j hj => by
  obtain ⟨b, o, rfl, hlt, hc⟩ := intCells_at h hj
  exact ⟨b, o, rfl, by omega, (hb.cell (p := ⟨b, o + j, none⟩) hlt).trans hc⟩
theorem IntsAt.below {A B : World} {n₀ N : Nat} {a : Option Addr} {L : List Int} (h : IntsAt A n₀ a L) (hb : Below N A B) (hn : n₀ ≤ N) : IntsAt B n₀ a L := fun j hj => by
  obtain ⟨b, o, rfl, hlt, hc⟩ := h j hj
  exact ⟨b, o, rfl, hlt, (hb.cell (p := ⟨b, o + j, none⟩) (by show b < N; omega)).trans hc⟩
end Go.Proofs.YtpgdmbolckogcaaDoor
namespace Go.Proofs.YtpgdmbolckogcaaDoor
open Go.RowKit

namespace Word
theorem letterOf_low {b : UInt8} (h1 : 97 ≤ (b.toNat : Int)) (h2 : (b.toNat : Int) ≤ 104) : letterOf b = (b.toNat : Int) - 97 + 1 := by
  unfold letterOf; rw [if_pos (by omega)]; omega
theorem letterOf_up {b : UInt8} (h1 : 65 ≤ (b.toNat : Int)) (h2 : (b.toNat : Int) ≤ 72) : letterOf b = -((b.toNat : Int) - 65 + 1) := by
  unfold letterOf; rw [if_neg (by omega), if_pos (by omega)]; omega
theorem letterOf_none {b : UInt8} (h1 : ¬ (97 ≤ (b.toNat : Int) ∧ (b.toNat : Int) ≤ 104)) (h2 : ¬ (65 ≤ (b.toNat : Int) ∧ (b.toNat : Int) ≤ 72)) : letterOf b = 0 := by
  unfold letterOf; rw [if_neg (by omega), if_neg (by omega)]
/-- The first i bytes stand for letters. -/
def Sofar (s : List UInt8) (i : Nat) : Prop := ∀ j (h : j < s.length), j < i → letterOf s[j] ≠ 0
theorem sofar_step {s : List UInt8} {i : Nat} (h : Sofar s i) (hi : i < s.length) (hx : letterOf s[i] ≠ 0) : Sofar s (i + 1) := fun j hj hji => by
  rcases Nat.lt_or_ge j i with h' | h'
  · exact h j hj h'
  · obtain rfl : j = i := by omega
    exact hx
theorem not_parses {s : List UInt8} (h0 : s ≠ [45]) {i : Nat} (hi : i < s.length) (hx : letterOf s[i] = 0) : ¬ Parses s := by
  rintro (h | ⟨_, _, h⟩)
  · exact h0 h
  · exact h _ (List.getElem_mem hi) hx
theorem parses_of {s : List UInt8} (h : Sofar s s.length) (h0 : s.length ≠ 0) (h24 : s.length ≤ 24) : Parses s :=
  Or.inr ⟨by rintro rfl; exact h0 rfl, h24, fun b hb => by obtain ⟨j, hj, rfl⟩ := List.mem_iff_getElem.1 hb; exact h j hj hj⟩
theorem not_parses_len {s : List UInt8} (h0 : s ≠ [45]) (h : s.length = 0 ∨ 24 < s.length) : ¬ Parses s := by
  rintro (h1 | ⟨h1, h2, _⟩)
  · exact h0 h1
  · rcases h with h | h
    · exact h1 (List.eq_nil_of_length_eq_zero h)
    · omega
theorem parsed_not {s : List UInt8} (h0 : s ≠ [45]) (h : ¬ Parses s) : parsed s = [] := by
  unfold parsed; rw [if_neg h0, if_neg h]
theorem parsed_of {s : List UInt8} (h0 : s ≠ [45]) (h : Parses s) : parsed s = s.map letterOf := by
  unfold parsed; rw [if_neg h0, if_pos h]
theorem map_take {s : List UInt8} {i : Nat} (h : i < s.length) : (s.take (i + 1)).map letterOf = (s.take i).map letterOf ++ [letterOf s[i]] := by
  rw [List.take_succ_eq_append_getElem h, List.map_append]; rfl
theorem parsed_len (s : List UInt8) : (parsed s).length ≤ 24 := by
  unfold parsed
  split
  · simp
  · split
    · rename_i h1 h2
      rcases h2 with h2 | ⟨_, h2, _⟩
      · exact absurd h2 h1
      · simpa using h2
    · simp
end Word

set_option maxRecDepth 10000 in
set_option maxHeartbeats 1000000 in
theorem spec_ParseWord (s : ByteArray) (w : World) (hs : s.size ≤ 1048576) :
    Calls Tryd.prog 59 #[.string s] w fun e w' => Gives2 w (Word.parsed s.data.toList) (decide (Word.Parses s.data.toList)) e w' := by
  by_cases h45 : s = ⟨#[45]⟩
  · subst h45
    go_enter Tryd.func59, Tryd.ntmps59
    go_wp2
    go_ret2
    rw [show Word.parsed (⟨#[45]⟩ : ByteArray).data.toList = [] from rfl, show decide (Word.Parses (⟨#[45]⟩ : ByteArray).data.toList) = true from rfl]
    exact (own_gives (l := []) (by exact own_made (w := w) rfl) rfl ((Below.refl _ _).alloc (Nat.le_refl _) _)).with
  · have h45' : s.data.toList ≠ [45] := fun e => h45 (ByteArray.ext (by rw [← Array.toList_inj]; exact e))
    have hbeq : (s.toList == [45]) = false := by rw [beq_eq_false_iff_ne, ByteArray.toList_eq]; exact h45'
    have H45 := Lib.hid h45'; clear h45'
    obtain ⟨i0, hi0, hz0, hz1, hz2⟩ := info_int_parts
    have Hi0 := Lib.hid hi0; have Hz0 := Lib.hid hz0; have Hz1 := Lib.hid hz1; have Hz2 := Lib.hid hz2
    clear hi0 hz0 hz1 hz2
    generalize hN : w.heap.size = N at *
    have HN := Lib.hid hN
    have hsl : s.data.toList.length = s.size := by simp
    have Hsl := Lib.hid hsl; clear hsl
    go_enter Tryd.func59, Tryd.ntmps59
    go_wp2
    clear hN
    go_loopw [2, 3, 4, 5] (fun r1 r2 ov iv wr => r1 = .slice none 0 0 ∧ r2 = .bool false ∧ ∃ i : Nat, i ≤ s.size ∧ iv = .int .i64 i ∧ Below N w wr ∧ wr.ownsRow N 3 1 ov i (intCells ((s.data.toList.take i).map Word.letterOf)) ∧ Hid (Word.Sofar s.data.toList i)) (fun _ _ _ iv _ => s.size - (intOf iv).toNat)
    case atStart => exact ⟨rfl, rfl, 0, by omega, rfl, by have h := (Below.refl w.heap.size w).alloc (Nat.le_refl _) (.cells #[] 3); rw [HN.out] at h; exact h, by have h := own_made HN.out; rw [HN.out] at h; exact h, Lib.hid (fun j _ h => by omega)⟩
    case round =>
      obtain ⟨rfl, rfl, i, hi, rfl, hb, hown, hso⟩ := hrel
      have hNle : N ≤ wr.heap.size := by have := hb.size; rw [HN.out] at this; exact this
      by_cases hlt : i < s.size
      · have hlt' : i < s.data.toList.length := by rw [Hsl.out]; exact hlt
        have hget : s.data.toList[i] = s[i] := rfl
        have hmt := Word.map_take hlt'
        rw [hget] at hmt
        have Hmt := Lib.hid hmt; have Hget := Lib.hid hget; clear hmt hget
        have hb256 := UInt8.toNat_lt s[i]
        have hc1 : i + 1 ≤ maxLen := by unfold maxLen; omega
        have hc2 : (i + 1) * 8 ≤ 140737488355328 := by omega
        obtain ⟨av, cv, rfl⟩ := own_len hown
        generalize hby : s[i] = by0 at *
        have Hby := Lib.hid hby
        have Hget' : Hid (s.data.toList[i]'hlt' = by0) := Lib.hid (by rw [← hby]; rfl)
        by_cases hl1 : 97 ≤ (by0.toNat : Int) ∧ (by0.toNat : Int) ≤ 104
        · obtain ⟨h1, h2⟩ := hl1
          have Hv := Lib.hid (Word.letterOf_low h1 h2)
          go_wp2_with (at_builtin; refine append_one rfl (.tmp 28) (.tmp 35) 36 rfl N 3 i0 _ 8 Tryd.underlying36 Hi0.out Hz0.out Hz1.out Hz2.out (by rfl) _ _ _ rfl hown (by rfl) _ rfl hc1 hc2 hNle ?_; intro v1 w1 hown1 hg1 _)
          go_roundw
          case rel =>
            refine ⟨rfl, rfl, i + 1, by omega, by go_num, Below.grown (hb.alloc hNle _) hg1 (by simp; omega) (fun k hk => (hown.lt k hk).1), ?_, Lib.hid (Word.sofar_step hso.out hlt' (by rw [Hget'.out, Hv.out]; omega))⟩
            rw [Hmt.out, ← intCells_snoc, Hv.out]; exact hown1
          case measure => simp [intOf]; omega
        · by_cases hl2 : 65 ≤ (by0.toNat : Int) ∧ (by0.toNat : Int) ≤ 72
          · obtain ⟨h1, h2⟩ := hl2
            have Hv := Lib.hid (Word.letterOf_up h1 h2)
            clear hl1
            have h3 : ¬ (97 ≤ (by0.toNat : Int)) := by omega
            go_wp2_with (at_builtin; refine append_one rfl (.tmp 48) (.tmp 56) 36 rfl N 3 i0 _ 8 Tryd.underlying36 Hi0.out Hz0.out Hz1.out Hz2.out (by rfl) _ _ _ rfl hown (by rfl) _ rfl hc1 hc2 hNle ?_; intro v1 w1 hown1 hg1 _)
            go_roundw
            case rel =>
              refine ⟨rfl, rfl, i + 1, by omega, by go_num, Below.grown (hb.alloc hNle _) hg1 (by simp; omega) (fun k hk => (hown.lt k hk).1), ?_, Lib.hid (Word.sofar_step hso.out hlt' (by rw [Hget'.out, Hv.out]; omega))⟩
              rw [Hmt.out, ← intCells_snoc, Hv.out]; exact hown1
            case measure => simp [intOf]; omega
          · have Hno := Lib.hid (Word.not_parses H45.out hlt' (by rw [Hget'.out]; exact Word.letterOf_none hl1 hl2))
            rcases (show (by0.toNat : Int) < 65 ∨ (72 < (by0.toNat : Int) ∧ (by0.toNat : Int) < 97) ∨ 104 < (by0.toNat : Int) by omega) with h1 | ⟨h1, h2⟩ | h1
            all_goals clear hl1 hl2
            all_goals
              go_wp2
              go_ret2
              rw [Word.parsed_not H45.out Hno.out, decide_eq_false Hno.out]
              exact (own_gives (l := []) (by rw [HN.out]; exact own_mono (own_made (w := wr) rfl) hNle) rfl (by rw [HN.out]; exact hb.alloc hNle _)).with
      · obtain rfl : i = s.size := by omega
        have hall : Word.Sofar s.data.toList s.data.toList.length := by rw [Hsl.out]; exact hso.out
        have Hall := Lib.hid hall; clear hall
        rw [List.take_of_length_le (by rw [Hsl.out]; exact Nat.le_refl _)] at hown
        obtain ⟨av, cv, rfl⟩ := own_len hown
        have Hown := Lib.hid hown; clear hown
        by_cases hz : s.size = 0
        · have hz' : ((s.size : Int) == 0) = true := by rw [beq_iff_eq]; omega
          have Hno := Lib.hid (Word.not_parses_len H45.out (Or.inl (by rw [Hsl.out]; exact hz)))
          go_wp2
          go_ret2
          rw [Word.parsed_not H45.out Hno.out, decide_eq_false Hno.out]
          exact (own_gives (l := []) (by rw [HN.out]; exact own_mono (own_made (w := wr) rfl) hNle) rfl (by rw [HN.out]; exact hb.alloc hNle _)).with
        · have hz' : ((s.size : Int) == 0) = false := by rw [beq_eq_false_iff_ne]; omega
          by_cases h24 : s.size ≤ 24
          · have Hok := Lib.hid (Word.parses_of Hall.out (by rw [Hsl.out]; exact hz) (by rw [Hsl.out]; exact h24))
            have h24' : ¬ (24 < (s.size : Int)) := by omega
            go_wp2
            go_ret2
            rw [Word.parsed_of H45.out Hok.out, decide_eq_true Hok.out]
            exact (own_gives (n := s.size) (by rw [HN.out]; exact Hown.out) (by rw [List.length_map]; exact Hsl.out) (by rw [HN.out]; exact hb)).with
          · have Hno := Lib.hid (Word.not_parses_len H45.out (Or.inr (by rw [Hsl.out]; omega)))
            have h24' : 24 < (s.size : Int) := by omega
            go_wp2
            go_ret2
            rw [Word.parsed_not H45.out Hno.out, decide_eq_false Hno.out]
            exact (own_gives (l := []) (by rw [HN.out]; exact own_mono (own_made (w := wr) rfl) hNle) rfl (by rw [HN.out]; exact hb.alloc hNle _)).with
end Go.Proofs.YtpgdmbolckogcaaDoor
namespace Go.Proofs.YtpgdmbolckogcaaDoor
open Go.RowKit Go.Shelf

attribute [local go_sem] Oper.semAt_some

set_option maxRecDepth 10000 in
set_option maxHeartbeats 400000 in
theorem impl_letterOfByte (b : UInt8) (w : World) : Calls Tryd.prog 104 #[.int .u8 (b.toNat : Int)] w fun e w' => e = .returned (.int .i64 (Word.letterOf b)) ∧ w' = w := by
  have hb256 := UInt8.toNat_lt b
  by_cases hl1 : 97 ≤ (b.toNat : Int) ∧ (b.toNat : Int) ≤ 104
  · obtain ⟨h1, h2⟩ := hl1
    have Hv := Lib.hid (Word.letterOf_low h1 h2)
    have h3 : (b.toNat : Int) < 105 := by omega
    go_enter Tryd.func104, Tryd.ntmps104
    go_wp2
    go_ret
    refine ⟨?_, rfl⟩
    rw [Hv.out]; rfl
  · by_cases hl2 : 65 ≤ (b.toNat : Int) ∧ (b.toNat : Int) ≤ 72
    · obtain ⟨h1, h2⟩ := hl2
      have Hv := Lib.hid (Word.letterOf_up h1 h2)
      clear hl1
      have h3 : ¬ (97 ≤ (b.toNat : Int)) := by omega
      have h4 : (b.toNat : Int) < 73 := by omega
      go_enter Tryd.func104, Tryd.ntmps104
      go_wp2
      go_ret
      refine ⟨?_, rfl⟩
      rw [Hv.out]
      exact congrArg (fun z => Ending.returned (Value.int .i64 z)) (by omega)
    · have Hv := Lib.hid (Word.letterOf_none hl1 hl2)
      rcases (show (b.toNat : Int) < 65 ∨ (73 ≤ (b.toNat : Int) ∧ (b.toNat : Int) < 97) ∨ 105 ≤ (b.toNat : Int) by omega) with h1 | ⟨h1, h2⟩ | h1
      all_goals clear hl1 hl2
      all_goals
        go_enter Tryd.func104, Tryd.ntmps104
        go_wp2
        go_ret
        refine ⟨?_, rfl⟩
        rw [Hv.out]; rfl

set_option maxRecDepth 100000 in
set_option maxHeartbeats 2000000 in
/-- The iterator over the letters of a text, for every loop body that keeps what lay below n₀ and the text's box. -/
theorem letters1_in (n : Nat) (hn : 1 ≤ n) (l Bn n₀ : Nat) (s : ByteArray) (hs : s.size ≤ 1048576) (J Jx : List Int → World → Prop)
    (hY : ∀ pre x W, J pre W → pre.length < s.size → YieldAt Fence.wide (n - 1) Tryd.prog l #[.int .i64 x] W fun e W' =>
      (e = .returned (.bool true) ∧ J (pre ++ [x]) W' ∧ KB n₀ Bn 9 W W') ∨ (e = .returned (.bool false) ∧ Jx (pre ++ [x]) W'))
    (W : World) (hBn : Boxed W Bn 9 (.string s)) (h0 : J [] W) :
    CallsIn Fence.wide n Tryd.prog 103 #[.func (.yield l) #[] #[], .pointer (some ⟨Bn, 0, none⟩)] W fun e W' => (∃ v, e = .returned v) ∧
      ((∃ ys, ys = s.data.toList.map Word.letterOf ∧ J ys W') ∨ (∃ pre, (∃ k, pre = (s.data.toList.take k).map Word.letterOf) ∧ Jx pre W')) := by
  refine callsIn_of_wp Tryd.func103 rfl trivial ?_ rfl
  simp only [Tryd.ntmps103, List.size_toArray, List.length_cons, List.length_nil, Nat.reduceAdd, Nat.reduceSub, Array.replicate_succ, Array.replicate_zero, List.push_toArray, List.append_toArray, List.nil_append, List.cons_append]
  have HY := Lib.hid hY
  have HBn := Lib.hid hBn
  have hcBn := hBn.cell
  have hsl : s.data.toList.length = s.size := by simp
  have Hsl := Lib.hid hsl
  clear hY hBn hsl
  gi_wp2
  gi_loopw [3, 6] (fun _ i wr => ∃ k : Nat, k ≤ s.size ∧ i = .int .i64 k ∧ J ((s.data.toList.take k).map Word.letterOf) wr ∧ KB n₀ Bn 9 W wr) (fun _ i _ => s.size - (intOf i).toNat)
  case atStart => exact ⟨0, Nat.zero_le _, rfl, h0, KB.refl _ _ _ _⟩
  case round =>
    obtain ⟨k, hk, rfl, hJs, hnx⟩ := hrel
    by_cases hlt : k < s.size
    · have hlt' : k < s.data.toList.length := by rw [Hsl.out]; exact hlt
      have hbox := (hnx.2 _ HBn.out).cell
      have hst := Word.map_take hlt'
      rw [show s.data.toList[k] = s[k] from rfl] at hst
      obtain ⟨fn, tmps, assign, body, hy, hR⟩ := HY.out _ (Word.letterOf s[k]) wr hJs (by rw [List.length_map, List.length_take, Hsl.out]; omega)
      rw [← hst] at hR
      have HR := Lib.hid hR
      have Hlb := Lib.hid (impl_letterOfByte s[k] wr)
      clear hst hR
      gi_wp2_with (refine ⟨trivial, ?_⟩; gi_at_call 104; refine (callsIn_wide.2 Hlb.out).mono ?_; rintro e w2 ⟨rfl, rfl⟩)
      refine HR.out.mono ?_
      rintro e W3 (⟨rfl, hJ3, hk3⟩ | ⟨rfl, hJx3⟩)
      · gi_wp2
        go_roundw
        case rel => exact ⟨k + 1, by omega, by go_num, hJ3, hnx.t hk3⟩
        case measure => simp [intOf]; omega
      · gi_wp2
        refine bodyPost_ret (results_none rfl _ _ _) rfl ?_
        exact ⟨⟨_, rfl⟩, .inr ⟨_, ⟨k + 1, rfl⟩, hJx3⟩⟩
    · obtain rfl : k = s.size := by omega
      gi_wp2
      go_end0
      refine ⟨⟨_, rfl⟩, .inl ⟨_, ?_, hJs⟩⟩
      rw [List.take_of_length_le (by rw [Hsl.out]; exact Nat.le_refl _)]

set_option maxRecDepth 100000 in
set_option maxHeartbeats 1000000 in
theorem lettersOfText_in (n : Nat) (s : ByteArray) (w : World) :
    CallsIn Fence.wide n Tryd.prog 90 #[.string s] w fun e w' => e = .returned (.func (.func 103) #[] #[.pointer (some ⟨w.heap.size, 0, none⟩)]) ∧ w' = w.alloc (.cells #[.string s] 9) := by
  refine callsIn_of_wp Tryd.func90 rfl trivial ?_ rfl
  simp only [Tryd.ntmps90, List.size_toArray, List.length_cons, List.length_nil, Nat.reduceAdd, Nat.reduceSub, Array.replicate_succ, Array.replicate_zero, List.push_toArray, List.append_toArray, List.nil_append, List.cons_append]
  gi_wp2
  go_ret
  exact ⟨rfl, rfl⟩

theorem letters_stops (n : Nat) (hn : 1 ≤ n) (Bn n₀ : Nat) (s : ByteArray) (hs : s.size ≤ 1048576) (w : World) (hBn : Bn < w.heap.size) (hbox : Boxed w Bn 9 (.string s)) :
    SeqStopsK Fence.wide n Tryd.prog 103 #[.pointer (some ⟨Bn, 0, none⟩)] (fun x : Int => #[Value.int .i64 x]) (KB n₀ Bn 9) (fun ys => ys = s.data.toList.map Word.letterOf) (fun pre => ∃ k, pre = (s.data.toList.take k).map Word.letterOf) s.size w := fun l J Jx W hW _ _ hY h0 =>
  letters1_in n hn l Bn n₀ s hs J Jx hY W ((hW.block Bn hBn).trans hbox) h0

theorem own_into {W : World} {n₀ B k : Nat} {t : TypeId} {v u u' : Value} {xs : List Value} (h : W.ownsRow n₀ 3 1 v k xs) (hb : Boxed W B t u) (ht : t ≠ 3) : (W.setCell ⟨B, 0, none⟩ u').ownsRow n₀ 3 1 v k xs :=
  h.kept (grownBy_setCell' W B u') (.inr (hb.not_row ht h).symm)

set_option maxRecDepth 100000 in
set_option maxHeartbeats 2000000 in
theorem impl_ParseWord_in (s : ByteArray) (w : World) (h45 : s.data.toList ≠ [45]) (hz : s.size ≠ 0) (h24 : s.size ≤ 24) :
    CallsIn Fence.wide 5 Tryd.prog 58 #[.string s] w fun e w' => Gives2 w (Word.parsed s.data.toList) (decide (Word.Parses s.data.toList)) e w' := by
  have hbeq : (s.toList == [45]) = false := by rw [beq_eq_false_iff_ne, ByteArray.toList_eq]; exact h45
  have hz' : ((s.size : Int) == 0) = false := by rw [beq_eq_false_iff_ne]; omega
  have h24' : decide (24 < (s.size : Int)) = false := by simp; omega
  have h24n : ¬ (24 < (s.size : Int)) := by omega
  have H45 := Lib.hid h45; clear h45
  have hsl : s.data.toList.length = s.size := by simp
  have Hsl := Lib.hid hsl; clear hsl
  obtain ⟨i0, hi, hz0, hz1, hz2⟩ := info_int_parts
  refine callsIn_of_wp_marks Tryd.func58 rfl trivial ?_ rfl
  simp only [Tryd.ntmps58, List.size_toArray, List.length_cons, List.length_nil, Nat.reduceAdd, Nat.reduceSub, Array.replicate_succ, Array.replicate_zero, List.push_toArray, List.append_toArray, List.nil_append, List.cons_append]
  gi_wp2_with (refine ⟨trivial, ?_⟩; gi_at_call 90; refine (lettersOfText_in _ _ _).mono ?_; rintro e w' ⟨rfl, rfl⟩)
  generalize hN : w.heap.size = N at *
  obtain ⟨wB, hwB⟩ : ∃ wB, (((w.alloc (.cells #[.slice none 0 0] 36)).alloc (.cells #[.bool false] 4)).alloc (.cells #[.slice none 0 0] 36)).alloc (.cells #[.string s] 9) = wB := ⟨_, rfl⟩
  have hsz : wB.heap.size = N + 4 := by rw [← hwB, ← hN]; simp
  have b1 : Boxed wB N 36 (.slice none 0 0) := by
    rw [← hwB, ← hN]; exact (((Boxed.new w _ _).alloc _).alloc _).alloc _
  have b2 : Boxed wB (N + 1) 4 (.bool false) := by
    rw [← hwB, ← hN]
    have := Boxed.new (w.alloc (.cells #[.slice none 0 0] 36)) 4 (.bool false)
    rw [World.size_alloc] at this
    exact (this.alloc _).alloc _
  have b3 : Boxed wB (N + 1 + 1) 36 (.slice none 0 0) := by
    rw [← hwB, ← hN]
    have := Boxed.new ((w.alloc (.cells #[.slice none 0 0] 36)).alloc (.cells #[.bool false] 4)) 36 (.slice none 0 0)
    rw [World.size_alloc, World.size_alloc] at this
    exact this.alloc _
  have b4 : Boxed wB (N + 1 + 1 + 1) 9 (.string s) := by
    rw [← hwB, ← hN]
    have := Boxed.new (((w.alloc (.cells #[.slice none 0 0] 36)).alloc (.cells #[.bool false] 4)).alloc (.cells #[.slice none 0 0] 36)) 9 (.string s)
    rw [World.size_alloc, World.size_alloc, World.size_alloc] at this
    exact this
  have hB0 : Below N w wB := by
    rw [← hwB]
    exact ((((Below.refl N w).alloc (by omega) _).alloc (by simp; omega) _).alloc (by simp; omega) _).alloc (by simp; omega) _
  rw [hwB]
  clear hwB
  refine wpIn_rangeFunc_ownG rfl (by omega) (gf := 103) (lb := #[.pointer (some ⟨N + 1 + 1 + 1, 0, none⟩)]) rfl trivial (enters_of Tryd.func103 (by kernel_rfl) rfl)
    (letters_stops 4 (by omega) (N + 1 + 1 + 1) N s (by omega) wB (by omega) b4) KB.t (KB.b (by omega)) (Below.refl _ _) (fun _ => rfl)
    (fun pre W => (∃ v, Boxed W (N + 1 + 1) 36 v ∧ W.ownsRow N 3 1 v pre.length (intCells pre) ∧ ∀ y ∈ pre, y ≠ 0) ∧ Boxed W N 36 (.slice none 0 0) ∧ Boxed W (N + 1) 4 (.bool false) ∧ Below N w W)
    (fun c pre W => (c = .ret ∧ ∃ y ∈ pre, y = 0) ∧ Boxed W N 36 (.slice none 0 0) ∧ Boxed W (N + 1) 4 (.bool false) ∧ Below N w W)
    (OwnFrom.and (Own.from (holdsRow_own N (N + 1 + 1) 36 3 1 (fun pre => pre.length) (fun pre => intCells pre) (fun pre _ => ∀ y ∈ pre, y ≠ 0)) _) (OwnFrom.and (Own.from (boxed_own _ _ _) _) (OwnFrom.and (Own.from (boxed_own _ _ _) _) (ownFrom_below (Nat.le_of_eq hN.symm) (by omega)))))
    (fun c => OwnFrom.and (ownFrom_pure _ _) (OwnFrom.and (Own.from (boxed_own _ _ _) _) (OwnFrom.and (Own.from (boxed_own _ _ _) _) (ownFrom_below (Nat.le_of_eq hN.symm) (by omega)))))
    ⟨⟨_, b3, World.ownsRow_nil _ _ _ _, fun _ h => by cases h⟩, b1, b2, hB0⟩
    (fun x => { tmps := #[.string s, undef, .pointer (some ⟨N, 0, none⟩), .pointer (some ⟨N + 1, 0, none⟩), .pointer (some ⟨N + 1 + 1, 0, none⟩), .int .i64 x, .string s, .bool false, .string s, .int .i64 s.size, .bool false, .bool false, .string s, .int .i64 s.size, .bool false, .bool false, .string s, .func (.func 103) #[] #[.pointer (some ⟨N + 1 + 1 + 1, 0, none⟩)], .int .i64 x, undef, undef, undef, undef, undef, undef, undef], defers := [] }) ?assign ?body ?done ?stop
  case assign =>
    intro l x W K hK
    gi_wp2
    exact hK
  case body =>
    rintro l' pre x W ⟨⟨v, hv, hrow, hne⟩, hr1, hr2, hB⟩ hlt
    have hc := hv.cell
    have hle : N ≤ W.heap.size := by have := hB.size; omega
    by_cases hx : x = 0
    · have hx' : (x == 0) = true := by rw [beq_iff_eq]; exact hx
      have hcr1 := hr1.cell
      have hfr1 := hr1.frozen
      have hs1 := hr1.set (.slice none 0 0)
      have hs2 := hr2.other (B' := N) (by omega) (.slice none 0 0)
      have hcr2 := hs2.cell
      have hfr2 := hs2.frozen
      have hB1 := hB.setCell (p := ⟨N, 0, none⟩) (Nat.le_refl _) (.slice none 0 0)
      gi_wp2
      refine ⟨(KeepsOthers.setCell W ⟨N, 0, none⟩ (.slice none 0 0)).trans (KeepsOthers.setCell _ ⟨N + 1, 0, none⟩ (.bool false)) |>.from _, ⟨rfl, x, List.mem_append.2 (.inr (by simp)), hx⟩, hs1.other (by omega) _, hs2.set _, hB1.setCell (p := ⟨N + 1, 0, none⟩) (by show N ≤ N + 1; omega) _⟩
    · have hx' : (x == 0) = false := by rw [beq_eq_false_iff_ne]; exact hx
      gi_wp2_with (gi_at_builtin; refine wpListIn_append_own _ rfl _ _ 36 rfl N 3 i0 (.int .i64 0) 1 8 Tryd.underlying36 hi hz0 hz1 hz2 rfl (by decide) _ _ _ rfl (hrow.alloc _) ⟨W.heap.size, 0, none⟩ 1 1 [.int .i64 x] rfl rfl (cell_one_new _ _ _) (by simp [Value.oneCell']) (by unfold maxLen; omega) (by omega) (by simp; omega) ?_; intro v' w2 hown' hgrow _; obtain ⟨g', cap', rfl⟩ := ownsRow_succ hown'; obtain ⟨hv1, hv2, hr3, hk2, hb2⟩ := hv.appended (by decide) hrow hle (by omega) hown' hgrow; have hc1 := hv1.cell; have hf1 := hv1.frozen)
      have hq1 := ((hr1.alloc _).kept hgrow (hr1.not_row (by decide) hrow)).other (B' := N + 1 + 1) (by omega) (.slice (some ⟨g', 0, none⟩) (pre.length + 1) cap')
      have hq2 := ((hr2.alloc _).kept hgrow (hr2.not_row (by decide) hrow)).other (B' := N + 1 + 1) (by omega) (.slice (some ⟨g', 0, none⟩) (pre.length + 1) cap')
      exact ⟨hk2.from _, KB.appended hb2 (by decide) hrow hgrow (by omega), ⟨_, hv2, by rw [List.length_append, ← intCells_snoc]; exact hr3, fun y hy => (List.mem_append.1 hy).elim (hne y) (fun e => by simp at e; rw [e]; exact hx)⟩, hq1, hq2, hB.trans hb2⟩
  case done =>
    rintro D ys W hD hys ⟨⟨v, hv, hrow, hne⟩, hr1, hr2, hB⟩ hK
    have Hys := Lib.hid hys; clear hys
    have hc := hv.cell
    have hcr1 := hr1.cell
    have hfr1 := hr1.frozen
    obtain ⟨av, cv, rfl⟩ := own_len hrow
    have hs1 := hr1.set (.slice av ys.length cv)
    have hs2 := hr2.other (B' := N) (by omega) (.slice av ys.length cv)
    have hcr2 := hs2.cell
    have hfr2 := hs2.frozen
    have ho1 := own_into (u' := .slice av ys.length cv) hrow hr1 (by decide)
    have ho2 := own_into (u' := .bool true) ho1 hs2 (by decide)
    have ht1 := hs1.other (B' := N + 1) (by omega) (.bool true)
    have ht2 := hs2.set (.bool true)
    have hK1 := (KeepsOthers.setCell W ⟨N, 0, none⟩ (.slice av ys.length cv)).same D _ hK rfl
    have hK2 := (KeepsOthers.setCell _ ⟨N + 1, 0, none⟩ (.bool true)).same D _ hK1 rfl
    have hB1 := hB.setCell (p := ⟨N, 0, none⟩) (Nat.le_refl _) (.slice av ys.length cv)
    have hB2 := hB1.setCell (p := ⟨N + 1, 0, none⟩) (by show N ≤ N + 1; omega) (.bool true)
    have hok : Word.Parses s.data.toList := by
      refine Word.parses_of (fun j hj _ => hne _ (by rw [Hys.out]; exact List.mem_map.2 ⟨_, List.getElem_mem hj, rfl⟩)) (by rw [Hsl.out]; exact hz) (by rw [Hsl.out]; exact h24)
    have Hok := Lib.hid hok; clear hok
    gi_wp2
    all_goals first | (refine ⟨by simp, ?_⟩) | (simp; done) | skip
    refine .inl ⟨_, _, rfl, run_takeDeferred hK2, ?_⟩
    have hb := hB2.trans (belowK_b (w := w) (n₀ := N) (Nat.le_of_eq hN.symm) _ D _ (.deferred none) (by omega) hK2 rfl rfl)
    have hc5 := cell_kept ht1.cell (grownBy_putObj' _ D (.deferred none)) (fun r e => by cases e; exact ⟨_, hK2, rfl⟩)
    have hc6 := cell_kept ht2.cell (grownBy_putObj' _ D (.deferred none)) (fun r e => by cases e; exact ⟨_, hK2, rfl⟩)
    refine ⟨.tuple #[.slice av ys.length cv, .bool true], ?_, ?_⟩
    · simp [results, Tryd.f58, go_sem, hc5, hc6]
    · rw [Word.parsed_of H45.out Hok.out, decide_eq_true Hok.out, ← Hys.out]
      exact (own_gives (by rw [hN]; exact ownsRow_putObj ho2 (.deferred none) hK2 rfl) rfl (by rw [hN]; exact hb)).with
  case stop =>
    rintro D c pre W hD ⟨k, hpre⟩ ⟨⟨rfl, y, hy, hy0⟩, hr1, hr2, hB⟩ hK
    have hno : ¬ Word.Parses s.data.toList := by
      rw [hpre, List.mem_map] at hy
      obtain ⟨b, hb, hbe⟩ := hy
      rintro (h | ⟨_, _, h⟩)
      · exact H45.out h
      · exact h b (List.mem_of_mem_take hb) (by rw [hbe]; exact hy0)
    have Hno := Lib.hid hno; clear hno hpre hy
    gi_wp2
    all_goals first | (refine ⟨by simp, ?_⟩) | (simp; done) | skip
    refine .inl ⟨_, _, rfl, run_takeDeferred hK, ?_⟩
    have hb := hB.trans (belowK_b (w := w) (n₀ := N) (Nat.le_of_eq hN.symm) _ D _ (.deferred none) (by omega) hK rfl rfl)
    have hc5 := cell_kept hr1.cell (grownBy_putObj' _ D (.deferred none)) (fun r e => by cases e; exact ⟨_, hK, rfl⟩)
    have hc6 := cell_kept hr2.cell (grownBy_putObj' _ D (.deferred none)) (fun r e => by cases e; exact ⟨_, hK, rfl⟩)
    refine ⟨.tuple #[.slice none 0 0, .bool false], ?_, ?_⟩
    · simp [results, Tryd.f58, go_sem, hc5, hc6]
    · rw [Word.parsed_not H45.out Hno.out, decide_eq_false Hno.out]
      exact Gives2.none (by rw [hN]; exact hb)

set_option maxRecDepth 10000 in
set_option maxHeartbeats 400000 in
theorem impl_ParseWord (s : ByteArray) (w : World) (hs : s.size ≤ 1048576) :
    Calls Tryd.prog 58 #[.string s] w fun e w' => Gives2 w (Word.parsed s.data.toList) (decide (Word.Parses s.data.toList)) e w' := by
  by_cases h45 : s = ⟨#[45]⟩
  · subst h45
    go_enter Tryd.func58, Tryd.ntmps58
    go_wp2
    refine bodyPost_ret (v := .tuple #[.slice none 0 0, .bool true]) (by simp [results, Tryd.f58, go_sem]) rfl ?_
    rw [show Word.parsed [45] = [] from rfl, show decide (Word.Parses [45]) = true from rfl]
    exact Gives2.none (((Below.refl _ w).alloc (Nat.le_refl _) _).alloc (by simp) _)
  · have h45' : s.data.toList ≠ [45] := fun e => h45 (ByteArray.ext (by rw [← Array.toList_inj]; exact e))
    have hbeq : (s.toList == [45]) = false := by rw [beq_eq_false_iff_ne, ByteArray.toList_eq]; exact h45'
    have hsl : s.data.toList.length = s.size := by simp
    by_cases hz : s.size = 0
    · have hz' : ((s.size : Int) == 0) = true := by rw [beq_iff_eq]; omega
      have hno := Word.not_parses_len h45' (Or.inl (by rw [hsl]; exact hz))
      have Hno := Lib.hid hno; have H45 := Lib.hid h45'
      clear hno h45' hsl h45
      go_enter Tryd.func58, Tryd.ntmps58
      go_wp2
      refine bodyPost_ret (v := .tuple #[.slice none 0 0, .bool false]) (by simp [results, Tryd.f58, go_sem]) rfl ?_
      rw [Word.parsed_not H45.out Hno.out, decide_eq_false Hno.out]
      exact Gives2.none (((Below.refl _ w).alloc (Nat.le_refl _) _).alloc (by simp) _)
    · by_cases h24 : s.size ≤ 24
      · exact callsIn_wide.1 (impl_ParseWord_in s w h45' hz h24)
      · have hz' : ((s.size : Int) == 0) = false := by rw [beq_eq_false_iff_ne]; omega
        have h24' : 24 < (s.size : Int) := by omega
        have hno := Word.not_parses_len h45' (Or.inr (by rw [hsl]; omega))
        have Hno := Lib.hid hno; have H45 := Lib.hid h45'
        clear hno h45' hsl h45
        go_enter Tryd.func58, Tryd.ntmps58
        go_wp2
        refine bodyPost_ret (v := .tuple #[.slice none 0 0, .bool false]) (by simp [results, Tryd.f58, go_sem]) rfl ?_
        rw [Word.parsed_not H45.out Hno.out, decide_eq_false Hno.out]
        exact Gives2.none (((Below.refl _ w).alloc (Nat.le_refl _) _).alloc (by simp) _)
end Go.Proofs.YtpgdmbolckogcaaDoor
namespace Go.Proofs.YtpgdmbolckogcaaDoor
open Go.RowKit

namespace Glue
def pieces (s : ByteArray) : List ByteArray := Split.pieces 32 s
def parsedRows (ps : List ByteArray) : List (List Int) := ps.map fun p => Word.parsed p.data.toList
def ParseOk (s : ByteArray) : Prop := (∀ p ∈ pieces s, Word.Parses p.data.toList) ∧ IsG (parsedRows (pieces s))
instance (s : ByteArray) : Decidable (ParseOk s) := by unfold ParseOk; exact inferInstance
def parsedG (s : ByteArray) : List (List Int) := if ParseOk s then parsedRows (pieces s) else []
theorem parsedG_tot (s : ByteArray) : tot (parsedG s) ≤ 1000000 := by
  unfold parsedG
  split
  · rename_i h
    have h1 := h.2.2.1
    have h2 := h.2.2.2.2.1
    unfold tot; omega
  · simp [tot, sumLen]
theorem parsedRows_len (ps : List ByteArray) : (parsedRows ps).length = ps.length := by simp [parsedRows]
theorem parsedRows_snoc {ps : List ByteArray} {i : Nat} {p : ByteArray} (h : ps[i]? = some p) : parsedRows (ps.take (i + 1)) = parsedRows (ps.take i) ++ [Word.parsed p.data.toList] := by
  obtain ⟨h1, rfl⟩ := List.getElem?_eq_some_iff.1 h
  unfold parsedRows
  rw [List.take_succ_eq_append_getElem h1, List.map_append]; rfl
theorem sumLen_small {L : List (List Int)} (h : ∀ r ∈ L, r.length ≤ 24) : sumLen L ≤ 24 * L.length := by
  induction L with
  | nil => simp [sumLen]
  | cons r t ih =>
    have h1 := h r (List.mem_cons_self ..)
    have h2 := ih (fun x hx => h x (List.mem_cons_of_mem _ hx))
    unfold sumLen at h2 ⊢
    simp only [List.map_cons, List.sum_cons, List.length_cons]
    omega
theorem parsedRows_small (ps : List ByteArray) : ∀ r ∈ parsedRows ps, r.length ≤ 24 := by
  intro r hr
  obtain ⟨p, _, rfl⟩ := List.mem_map.1 hr
  exact Word.parsed_len _
theorem bad_piece {s : ByteArray} {i : Nat} {p : ByteArray} (h : (pieces s)[i]? = some p) (hn : ¬ Word.Parses p.data.toList) : ¬ ParseOk s := fun ho => hn (ho.1 p (get_mem h))
theorem bad_empty {s : ByteArray} {i : Nat} {p : ByteArray} (h : (pieces s)[i]? = some p) (hn : Word.parsed p.data.toList = []) : ¬ ParseOk s := fun ho =>
  (ho.2.2.2.1 _ (List.mem_map.2 ⟨p, get_mem h, rfl⟩)).1 hn
theorem ok_iff {s : ByteArray} (h : ∀ j p, (pieces s)[j]? = some p → j < (pieces s).length → Word.Parses p.data.toList) : ParseOk s ↔ IsG (parsedRows (pieces s)) :=
  ⟨fun h => h.2, fun hg => ⟨fun p hp => by
    obtain ⟨j, hj, rfl⟩ := List.mem_iff_getElem.1 hp
    exact h j _ (List.getElem?_eq_getElem hj) hj, hg⟩⟩
end Glue

set_option maxRecDepth 10000 in
set_option maxHeartbeats 2000000 in
theorem spec_ParseGluing (s : ByteArray) (w : World) (hs : s.size ≤ 1048576) :
    Calls Tryd.prog 19 #[.string s] w fun e w' => GivesRows2 w (Glue.parsedG s) (decide (Glue.ParseOk s)) e w' := by
  have hsp := fun W => spec_SplitByte s 32 W hs
  have hplen : (Split.pieces 32 s).length ≤ s.size + 1 := Split.pieces_length 32 s
  have hpsz := fun q (h : q ∈ Split.pieces 32 s) => Split.pieces_small 32 s q h
  have hbad := fun i p (h : (Split.pieces 32 s)[i]? = some p) => Glue.bad_piece (s := s) (i := i) (p := p) h
  have hbe := fun i p (h : (Split.pieces 32 s)[i]? = some p) => Glue.bad_empty (s := s) (i := i) (p := p) h
  have hok := Glue.ok_iff (s := s)
  have hG : Glue.parsedG s = if Glue.ParseOk s then Glue.parsedRows (Split.pieces 32 s) else [] := rfl
  unfold Glue.pieces at hok
  generalize Glue.parsedG s = G at *
  obtain ⟨ok, hokd⟩ : ∃ ok, decide (Glue.ParseOk s) = ok := ⟨_, rfl⟩
  rw [hokd]
  generalize Split.pieces 32 s = ps at *
  obtain ⟨i0, hi0, hz0, hz1, hz2⟩ := info_ints_parts
  have Hi0 := Lib.hid hi0; have Hz0 := Lib.hid hz0; have Hz1 := Lib.hid hz1; have Hz2 := Lib.hid hz2
  have Hsp := Lib.hid hsp; have Hpsz := Lib.hid hpsz; have Hbad := Lib.hid hbad; have Hbe := Lib.hid hbe; have Hok := Lib.hid hok; have HG := Lib.hid hG; have Hokd := Lib.hid hokd
  clear hsp hpsz hbad hbe hok hG hi0 hz0 hz1 hz2 hokd
  have hmd := made_rows (w := w) rfl
  have hbm := (Below.refl w.heap.size w).alloc (Nat.le_refl _) (.cells #[] 36)
  generalize hN : w.heap.size = N at *
  have HN := Lib.hid hN; have Hmd := Lib.hid hmd; have Hbm := Lib.hid hbm
  clear hmd hbm
  go_enter Tryd.func19, Tryd.ntmps19
  go_wp2_with fail
  refine (Hsp.out _).mono ?_
  rintro e w1 ⟨⟨pv, rfl, hpo⟩, hb1⟩
  have hsz : (w.alloc (.cells #[] 36)).heap.size = N + 1 := by rw [← HN.out]; simp
  rw [hsz] at hpo hb1
  obtain ⟨av, cv, rfl, _, hpf⟩ := own_fresh hpo (by simp [strCells])
  have hmd1 := own_keep Hmd.out hb1 (fun k hk => by have := own_block hk; have := HN.out; omega)
  have hb1' := Hbm.out.trans (hb1.mono (Nat.le_succ N))
  have hM : N ≤ w1.heap.size := by have := hb1'.size; have := HN.out; simp at *; omega
  have Hpr := Lib.hid (RowIn.of_fresh hpf)
  have Hb1 := Lib.hid hb1'; have Hmd1 := Lib.hid hmd1
  clear hpo hpf hb1 hb1' hmd1 hsz
  generalize hB : w1.heap.size = B at *
  have Hpr2 : Hid (RowIn w1 (N + 1) B 9 av (strCells ps)) := Lib.hid Hpr.out
  clear Hpr
  go_wp2
  go_loopw [4, 6, 7, 8] (fun ov iv _ _ wr => ∃ i : Nat, i ≤ ps.length ∧ iv = .int .i64 i ∧ Hid (Below N w wr) ∧ Hid (RowIn wr (N + 1) B 9 av (strCells ps)) ∧ Hid (∀ j p, ps[j]? = some p → j < i → Word.Parses p.data.toList) ∧ Hid (∃ hs : List Hd, hs.map Hd.l = Glue.parsedRows (ps.take i) ∧ wr.ownsRow N 36 1 ov i (hdCells hs) ∧ (∀ h ∈ hs, RowIn wr N wr.heap.size 3 h.a (intCells h.l)) ∧ Apts hs)) (fun _ iv _ _ _ => ps.length - (intOf iv).toNat)
  case atStart => exact ⟨0, by omega, rfl, Hb1, Hpr2, Lib.hid (fun _ _ _ h => by omega), Lib.hid ⟨[], rfl, Hmd1.out, fun _ h => (by cases h), Apts.nil⟩⟩
  case round =>
    obtain ⟨i, hi, rfl, hb, hpr, hall, hgr⟩ := hrel
    by_cases hlt : i < ps.length
    · obtain ⟨p, hp⟩ := get_some hlt
      have hcell0 := strCells_at hpr.out.row hlt
      have hpi : ps[i] = p := by rw [List.getElem?_eq_getElem hlt] at hp; exact Option.some.inj hp
      rw [hpi] at hcell0
      obtain ⟨b, o, rfl, hbw, hcell⟩ := hcell0
      have hW := spec_ParseWord p wr (Nat.le_trans (Hpsz.out p (get_mem hp)) hs)
      have hsn := Glue.parsedRows_snoc hp
      have hbd := Hbad.out i p hp
      have hbe := Hbe.out i p hp
      have hnx : Word.Parses p.data.toList → ∀ j q, ps[j]? = some q → j < i + 1 → Word.Parses q.data.toList := fun h j q hq hj => by
        rcases Nat.lt_or_ge j i with h2 | h2
        · exact hall.out j q hq h2
        · obtain rfl : j = i := by omega
          rw [hp] at hq; cases hq; exact h
      have hsmall := Word.parsed_len p.data.toList
      generalize Word.parsed p.data.toList = l at *
      have Hsn := Lib.hid hsn; have Hnx := Lib.hid hnx
      have hNw : N ≤ wr.heap.size := by have := hb.out.size; rw [HN.out] at this; exact this
      clear hsn hnx hpi hp hbw
      by_cases hpz : Word.Parses p.data.toList
      · rw [decide_eq_true hpz] at hW
        have HW := Lib.hid hW; have Hpz := Lib.hid hpz
        clear hW hbd hpz
        by_cases hl0 : l.length = 0
        · have hno := hbe (List.eq_nil_of_length_eq_zero hl0)
          have hg0 : G = [] := by rw [HG.out, if_neg hno]
          have hk0 : ok = false := by rw [← Hokd.out]; exact decide_eq_false hno
          have Hno := Lib.hid (And.intro hg0 hk0)
          have hlb : ((l.length : Int) == 0) = true := by rw [hl0]; rfl
          clear hno hg0 hk0 hbe
          go_wp2_with fail
          refine HW.out.mono ?_
          rintro e w2 ⟨a, c, rfl, _, _, _, hb2⟩
          have Hb2 := Lib.hid (hb.out.trans (hb2.mono hNw))
          have hN2 : N ≤ w2.heap.size := by have := Hb2.out.size; rw [HN.out] at this; exact this
          clear hb2
          go_wp2
          go_ret2
          rw [Hno.out.1, Hno.out.2]
          exact GivesRows2.none (by rw [HN.out]; exact Hb2.out.alloc hN2 _) (by unfold maxLen; omega)
        · have hlb : ((l.length : Int) == 0) = false := beq_eq_false_iff_ne.2 (by omega)
          obtain ⟨hs', hh⟩ := hgr.out
          obtain ⟨hh1, hown, hin, hap⟩ := hh
          have Hh1 := Lib.hid hh1; have Hin := Lib.hid hin; have Hap := Lib.hid hap
          clear hbe hgr hh1 hin hap
          go_wp2_with fail
          refine HW.out.mono ?_
          rintro e w2 ⟨a, c, rfl, hlc, _, hf, hb2⟩
          have Hlc := Lib.hid hlc; clear hlc
          have hN2 : N ≤ w2.heap.size := Nat.le_trans hNw hb2.size
          have hown2 := own_keep hown hb2 (fun k hk => (hown.lt k hk).2)
          have hbw2 := hb.out.trans (hb2.mono hNw)
          have hpr2 := hpr.out.below hb2
          have hm1 : i + 1 ≤ maxLen := by unfold maxLen; omega
          have hm2 : (i + 1) * 24 ≤ 140737488355328 := by omega
          obtain ⟨ova, ovc, rfl⟩ := own_len hown
          have Hf := Lib.hid hf; have Hb2 := Lib.hid hb2; have Hbw2 := Lib.hid hbw2; have Hpr2 := Lib.hid hpr2; have HNw := Lib.hid hNw
          clear hf hb2 hbw2 hpr2 hown hcell hNw
          go_wp2_with (at_builtin; refine append_one rfl (.tmp 34) (.tmp 36) 22 rfl N 36 i0 _ 24 Tryd.underlying22 Hi0.out Hz0.out Hz1.out Hz2.out (by rfl) _ _ _ rfl hown2 (by rfl) _ rfl hm1 hm2 hN2 ?_; intro v1 w1 hown1 hg1 _)
          go_roundw
          case rel =>
            have hst := grid_step (c := c) Hin.out Hap.out hown2 HNw.out Hf.out Hb2.out hg1 Hlc.out
            refine ⟨i + 1, by omega, by go_num, Lib.hid (Below.grown (Hbw2.out.alloc hN2 _) hg1 (by simp; omega) (fun k hk => (hown2.lt k hk).1)), Lib.hid ((Hpr2.out.below ((Below.refl w2.heap.size w2).alloc (Nat.le_refl _) _)).grownOf hg1 (by decide) (own_type (hown2.alloc _))), Lib.hid (Hnx.out Hpz.out), Lib.hid ⟨hs' ++ [⟨a, c, l⟩], ?_, ?_, hst⟩⟩
            · rw [List.map_append, Hh1.out, Hsn.out]; rfl
            · rw [← hdCells_snoc]; exact hown1
          case measure => simp [intOf]; omega
      · rw [decide_eq_false hpz] at hW
        have HW := Lib.hid hW
        have hno := hbd hpz
        have hg0 : G = [] := by rw [HG.out, if_neg hno]
        have hk0 : ok = false := by rw [← Hokd.out]; exact decide_eq_false hno
        have Hno := Lib.hid (And.intro hg0 hk0)
        clear hno hg0 hk0 hbe hbd hW hpz
        go_wp2_with fail
        refine HW.out.mono ?_
        rintro e w2 ⟨a, c, rfl, _, _, _, hb2⟩
        have Hb2 := Lib.hid (hb.out.trans (hb2.mono hNw))
        have hN2 : N ≤ w2.heap.size := by have := Hb2.out.size; rw [HN.out] at this; exact this
        clear hb2
        go_wp2
        go_ret2
        rw [Hno.out.1, Hno.out.2]
        exact GivesRows2.none (by rw [HN.out]; exact Hb2.out.alloc hN2 _) (by unfold maxLen; omega)
    · obtain rfl : i = ps.length := by omega
      obtain ⟨hs', hh1, hown, hin, hap⟩ := hgr.out
      rw [List.take_of_length_le (Nat.le_refl _)] at hh1
      have hlen' : hs'.length = ps.length := by have := congrArg List.length hh1; rw [List.length_map, Glue.parsedRows_len] at this; exact this
      obtain ⟨ga, gc, rfl, hgc, hgm, hgrid⟩ := grid_done hown hlen' hin hap
      rw [hh1] at hgrid
      have hiff := Hok.out hall.out
      have hsl := Glue.sumLen_small (Glue.parsedRows_small ps)
      have hsm := Glue.parsedRows_small ps
      have hrl := Glue.parsedRows_len ps
      rw [hrl] at hsl
      have hIG := fun W (h : GridAt W ga (Glue.parsedRows ps)) => spec_IsGluing_big ga gc (Glue.parsedRows ps) W h (by omega) (by omega) (fun r hr => Nat.le_trans (hsm r hr) (by decide))
      rw [hrl] at hIG
      have hNw : N ≤ wr.heap.size := by have := hb.out.size; rw [HN.out] at this; exact this
      have Hgrid := Lib.hid hgrid; have HIG := Lib.hid hIG; have Hb := hb; have Hrl := Lib.hid hrl
      clear hh1 hown hin hap hgrid hsl hsm hIG hgr hlen' hrl hb
      by_cases hg : Glue.ParseOk s
      · have hgi := hiff.1 hg
        have hg1 : G = Glue.parsedRows ps := by rw [HG.out, if_pos hg]
        have hk1 : ok = true := by rw [← Hokd.out]; exact decide_eq_true hg
        have hc := HIG.out wr Hgrid.out.grid
        rw [decide_eq_true hgi] at hc
        have Hc := Lib.hid hc; have Hyes := Lib.hid (And.intro hg1 hk1)
        clear hgi hg1 hk1 hc hg hiff
        generalize Glue.parsedRows ps = R at *
        go_wp2_with fail
        refine Hc.out.mono ?_
        rintro e w2 ⟨rfl, hb2⟩
        have Hb2 := Lib.hid hb2
        clear hb2
        go_wp2
        go_ret2
        rw [Hyes.out.1, Hyes.out.2]
        refine ⟨ga, gc, by rw [Hrl.out]; rfl, by rw [Hrl.out]; exact hgc, hgm, ?_, by rw [HN.out]; exact Hb.out.trans (Hb2.out.mono hNw)⟩
        rw [HN.out]
        exact (Hgrid.out.below Hb2.out).mono (Nat.le_refl _) Hb2.out.size
      · have hgi : ¬ Glue.IsG (Glue.parsedRows ps) := fun h => hg (hiff.2 h)
        have hg0 : G = [] := by rw [HG.out, if_neg hg]
        have hk0 : ok = false := by rw [← Hokd.out]; exact decide_eq_false hg
        have hc := HIG.out wr Hgrid.out.grid
        rw [decide_eq_false hgi] at hc
        have Hc := Lib.hid hc; have Hno := Lib.hid (And.intro hg0 hk0)
        clear hgi hg0 hk0 hc hg hiff
        generalize Glue.parsedRows ps = R at *
        go_wp2_with fail
        refine Hc.out.mono ?_
        rintro e w2 ⟨rfl, hb2⟩
        have Hb2 := Lib.hid (Hb.out.trans (hb2.mono hNw))
        have hN2 : N ≤ w2.heap.size := Nat.le_trans hNw hb2.size
        clear hb2
        go_wp2
        go_ret2
        rw [Hno.out.1, Hno.out.2]
        exact GivesRows2.none (by rw [HN.out]; exact Hb2.out.alloc hN2 _) (by unfold maxLen; omega)

set_option maxRecDepth 10000 in
set_option maxHeartbeats 2000000 in
theorem impl_ParseGluing (s : ByteArray) (w : World) (hsh : w.ShapedOpen Tryd.prog) (hs : s.size ≤ 1048576) :
    Calls Tryd.prog 18 #[.string s] w fun e w' => GivesRows2 w (Glue.parsedG s) (decide (Glue.ParseOk s)) e w' := by
  have hsp := impl_SplitByte s 32 w hsh hs
  have hplen : (Split.pieces 32 s).length ≤ s.size + 1 := Split.pieces_length 32 s
  have hpsz := fun q (h : q ∈ Split.pieces 32 s) => Split.pieces_small 32 s q h
  have hbad := fun i p (h : (Split.pieces 32 s)[i]? = some p) => Glue.bad_piece (s := s) (i := i) (p := p) h
  have hbe := fun i p (h : (Split.pieces 32 s)[i]? = some p) => Glue.bad_empty (s := s) (i := i) (p := p) h
  have hok := Glue.ok_iff (s := s)
  have hG : Glue.parsedG s = if Glue.ParseOk s then Glue.parsedRows (Split.pieces 32 s) else [] := rfl
  unfold Glue.pieces at hok
  generalize Glue.parsedG s = G at *
  obtain ⟨ok, hokd⟩ : ∃ ok, decide (Glue.ParseOk s) = ok := ⟨_, rfl⟩
  rw [hokd]
  generalize Split.pieces 32 s = ps at *
  obtain ⟨i0, hi0, hz0, hz1, hz2⟩ := info_ints_parts
  have Hi0 := Lib.hid hi0; have Hz0 := Lib.hid hz0; have Hz1 := Lib.hid hz1; have Hz2 := Lib.hid hz2
  have Hsp := Lib.hid hsp; have Hpsz := Lib.hid hpsz; have Hbad := Lib.hid hbad; have Hbe := Lib.hid hbe; have Hok := Lib.hid hok; have HG := Lib.hid hG; have Hokd := Lib.hid hokd
  clear hsp hpsz hbad hbe hok hG hi0 hz0 hz1 hz2 hokd
  generalize hN : w.heap.size = N at *
  have HN := Lib.hid hN
  go_enter Tryd.func18, Tryd.ntmps18
  go_wp2_with fail
  refine Hsp.out.mono ?_
  rintro e w1 ⟨⟨pg, rfl, hpg, hpb⟩, hb1⟩
  have hpl : (strCells ps).length = ps.length := by simp [strCells]
  rw [hpl]
  have hpb2 : RowIn w1 N w1.heap.size 9 (some ⟨pg, 0, none⟩) (strCells ps) := RowIn.of_blk hpb hpg hpb.lt
  have Hb1 := Lib.hid hb1
  generalize hB : w1.heap.size = B at *
  have Hpr2 : Hid (RowIn w1 N B 9 (some ⟨pg, 0, none⟩) (strCells ps)) := Lib.hid hpb2
  clear hpb2 hpb hpg hb1 hpl
  go_wp2
  go_loopw [4, 6, 7, 8, 12] (fun ov _ _ _ iv wr => ∃ i : Nat, i ≤ ps.length ∧ iv = .int .i64 i ∧ Hid (Below N w wr) ∧ Hid (RowIn wr N B 9 (some ⟨pg, 0, none⟩) (strCells ps)) ∧ Hid (∀ j p, ps[j]? = some p → j < i → Word.Parses p.data.toList) ∧ Hid (∃ hs : List Hd, hs.map Hd.l = Glue.parsedRows (ps.take i) ∧ wr.ownsRow N 36 1 ov i (hdCells hs) ∧ (∀ h ∈ hs, RowIn wr N wr.heap.size 3 h.a (intCells h.l)) ∧ Apts hs)) (fun _ _ _ _ iv _ => ps.length - (intOf iv).toNat)
  case atStart => exact ⟨0, by omega, rfl, Hb1, Hpr2, Lib.hid (fun _ _ _ h => by omega), Lib.hid ⟨[], rfl, World.ownsRow_nil _ _ _ _, fun _ h => (by cases h), Apts.nil⟩⟩
  case round =>
    obtain ⟨i, hi, rfl, hb, hpr, hall, hgr⟩ := hrel
    by_cases hlt : i < ps.length
    · obtain ⟨p, hp⟩ := get_some hlt
      have hcell0 := strCells_at hpr.out.row hlt
      have hpi : ps[i] = p := by rw [List.getElem?_eq_getElem hlt] at hp; exact Option.some.inj hp
      rw [hpi] at hcell0
      obtain ⟨b, o, e0, hbw, hcell⟩ := hcell0
      cases e0
      rw [Nat.zero_add] at hcell
      have hW := impl_ParseWord p wr (Nat.le_trans (Hpsz.out p (get_mem hp)) hs)
      have hsn := Glue.parsedRows_snoc hp
      have hbd := Hbad.out i p hp
      have hbe := Hbe.out i p hp
      have hnx : Word.Parses p.data.toList → ∀ j q, ps[j]? = some q → j < i + 1 → Word.Parses q.data.toList := fun h j q hq hj => by
        rcases Nat.lt_or_ge j i with h2 | h2
        · exact hall.out j q hq h2
        · obtain rfl : j = i := by omega
          rw [hp] at hq; cases hq; exact h
      have hsmall := Word.parsed_len p.data.toList
      generalize Word.parsed p.data.toList = l at *
      have Hsn := Lib.hid hsn; have Hnx := Lib.hid hnx
      have hNw : N ≤ wr.heap.size := by have := hb.out.size; rw [HN.out] at this; exact this
      clear hsn hnx hpi hp hbw
      by_cases hpz : Word.Parses p.data.toList
      · rw [decide_eq_true hpz] at hW
        have HW := Lib.hid hW; have Hpz := Lib.hid hpz
        clear hW hbd hpz
        skip
        obtain ⟨hs', hh⟩ := hgr.out
        obtain ⟨hh1, hown, hin, hap⟩ := hh
        have Hh1 := Lib.hid hh1; have Hin := Lib.hid hin; have Hap := Lib.hid hap
        clear hbe hgr hh1 hin hap
        go_wp2_with fail
        refine HW.out.mono ?_
        rintro e w2 ⟨a, c, rfl, hlc, _, hf, hb2⟩
        have Hlc := Lib.hid hlc; clear hlc
        have hN2 : N ≤ w2.heap.size := Nat.le_trans hNw hb2.size
        have hown2 := own_keep hown hb2 (fun k hk => (hown.lt k hk).2)
        have hbw2 := hb.out.trans (hb2.mono hNw)
        have hpr2 := hpr.out.below hb2
        have hm1 : i + 1 ≤ maxLen := by unfold maxLen; omega
        have hm2 : (i + 1) * 24 ≤ 140737488355328 := by omega
        obtain ⟨ova, ovc, rfl⟩ := own_len hown
        have Hf := Lib.hid hf; have Hb2 := Lib.hid hb2; have Hbw2 := Lib.hid hbw2; have Hpr2 := Lib.hid hpr2; have HNw := Lib.hid hNw
        clear hf hb2 hbw2 hpr2 hown hcell hNw
        go_wp2_with (at_builtin; refine append_one rfl (.tmp 23) (.tmp 25) 22 rfl N 36 i0 _ 24 Tryd.underlying22 Hi0.out Hz0.out Hz1.out Hz2.out (by rfl) _ _ _ rfl hown2 (by rfl) _ rfl hm1 hm2 hN2 ?_; intro v1 w1 hown1 hg1 _)
        go_roundw
        case rel =>
          have hst := grid_step (c := c) Hin.out Hap.out hown2 HNw.out Hf.out Hb2.out hg1 Hlc.out
          refine ⟨i + 1, by omega, by go_num, Lib.hid (Below.grown (Hbw2.out.alloc hN2 _) hg1 (by simp; omega) (fun k hk => (hown2.lt k hk).1)), Lib.hid ((Hpr2.out.below ((Below.refl w2.heap.size w2).alloc (Nat.le_refl _) _)).grownOf hg1 (by decide) (own_type (hown2.alloc _))), Lib.hid (Hnx.out Hpz.out), Lib.hid ⟨hs' ++ [⟨a, c, l⟩], ?_, ?_, hst⟩⟩
          · rw [List.map_append, Hh1.out, Hsn.out]; rfl
          · rw [← hdCells_snoc]; exact hown1
        case measure => simp [intOf]; omega
      · rw [decide_eq_false hpz] at hW
        have HW := Lib.hid hW
        have hno := hbd hpz
        have hg0 : G = [] := by rw [HG.out, if_neg hno]
        have hk0 : ok = false := by rw [← Hokd.out]; exact decide_eq_false hno
        have Hno := Lib.hid (And.intro hg0 hk0)
        clear hno hg0 hk0 hbe hbd hW hpz
        go_wp2_with fail
        refine HW.out.mono ?_
        rintro e w2 ⟨a, c, rfl, _, _, _, hb2⟩
        have Hb2 := Lib.hid (hb.out.trans (hb2.mono hNw))
        have hN2 : N ≤ w2.heap.size := by have := Hb2.out.size; rw [HN.out] at this; exact this
        clear hb2
        go_wp2
        go_ret2
        rw [Hno.out.1, Hno.out.2]
        exact GivesRows2.none (by rw [HN.out]; exact Hb2.out) (by unfold maxLen; omega)
    · obtain rfl : i = ps.length := by omega
      obtain ⟨hs', hh1, hown, hin, hap⟩ := hgr.out
      rw [List.take_of_length_le (Nat.le_refl _)] at hh1
      have hlen' : hs'.length = ps.length := by have := congrArg List.length hh1; rw [List.length_map, Glue.parsedRows_len] at this; exact this
      obtain ⟨ga, gc, rfl, hgc, hgm, hgrid⟩ := grid_done hown hlen' hin hap
      rw [hh1] at hgrid
      have hiff := Hok.out hall.out
      have hsl := Glue.sumLen_small (Glue.parsedRows_small ps)
      have hsm := Glue.parsedRows_small ps
      have hrl := Glue.parsedRows_len ps
      rw [hrl] at hsl
      have hIG := fun W (h : GridAt W ga (Glue.parsedRows ps)) => impl_IsGluing_big ga gc (Glue.parsedRows ps) W h (by omega) (by omega) (fun r hr => Nat.le_trans (hsm r hr) (by decide))
      rw [hrl] at hIG
      have hNw : N ≤ wr.heap.size := by have := hb.out.size; rw [HN.out] at this; exact this
      have Hgrid := Lib.hid hgrid; have HIG := Lib.hid hIG; have Hb := hb; have Hrl := Lib.hid hrl
      clear hh1 hown hin hap hgrid hsl hsm hIG hgr hlen' hrl hb
      by_cases hg : Glue.ParseOk s
      · have hgi := hiff.1 hg
        have hg1 : G = Glue.parsedRows ps := by rw [HG.out, if_pos hg]
        have hk1 : ok = true := by rw [← Hokd.out]; exact decide_eq_true hg
        have hc := HIG.out wr Hgrid.out.grid
        rw [decide_eq_true hgi] at hc
        have Hc := Lib.hid hc; have Hyes := Lib.hid (And.intro hg1 hk1)
        clear hgi hg1 hk1 hc hg hiff
        generalize Glue.parsedRows ps = R at *
        go_wp2_with fail
        refine Hc.out.mono ?_
        rintro e w2 ⟨rfl, hb2⟩
        have Hb2 := Lib.hid hb2
        clear hb2
        go_wp2
        go_ret2
        rw [Hyes.out.1, Hyes.out.2]
        refine ⟨ga, gc, by rw [Hrl.out]; rfl, by rw [Hrl.out]; exact hgc, hgm, ?_, by rw [HN.out]; exact Hb.out.trans (Hb2.out.mono hNw)⟩
        rw [HN.out]
        exact (Hgrid.out.below Hb2.out).mono (Nat.le_refl _) Hb2.out.size
      · have hgi : ¬ Glue.IsG (Glue.parsedRows ps) := fun h => hg (hiff.2 h)
        have hg0 : G = [] := by rw [HG.out, if_neg hg]
        have hk0 : ok = false := by rw [← Hokd.out]; exact decide_eq_false hg
        have hc := HIG.out wr Hgrid.out.grid
        rw [decide_eq_false hgi] at hc
        have Hc := Lib.hid hc; have Hno := Lib.hid (And.intro hg0 hk0)
        clear hgi hg0 hk0 hc hg hiff
        generalize Glue.parsedRows ps = R at *
        go_wp2_with fail
        refine Hc.out.mono ?_
        rintro e w2 ⟨rfl, hb2⟩
        have Hb2 := Lib.hid (Hb.out.trans (hb2.mono hNw))
        have hN2 : N ≤ w2.heap.size := Nat.le_trans hNw hb2.size
        clear hb2
        go_wp2
        go_ret2
        rw [Hno.out.1, Hno.out.2]
        exact GivesRows2.none (by rw [HN.out]; exact Hb2.out) (by unfold maxLen; omega)
end Go.Proofs.YtpgdmbolckogcaaDoor
namespace Go.Proofs.YtpgdmbolckogcaaDoor
open Go.RowKit

namespace Word
theorem letterOf_low_of {x : Int} (h : Letter x) : letterOf (low x) = x := by
  rcases letter_cases h with rfl | rfl | rfl | rfl | rfl | rfl | rfl | rfl | rfl | rfl | rfl | rfl | rfl | rfl | rfl | rfl <;> rfl
theorem low_ne {x : Int} (h : Letter x) : low x ≠ 45 := by
  rcases letter_cases h with rfl | rfl | rfl | rfl | rfl | rfl | rfl | rfl | rfl | rfl | rfl | rfl | rfl | rfl | rfl | rfl <;> decide
theorem text_letters {l : List Int} (h : ∀ x ∈ l, Letter x) : (text l).map letterOf = l := by
  unfold text
  rw [List.map_map]
  conv => rhs; rw [← List.map_id l]
  exact List.map_congr_left (fun x hx => letterOf_low_of (h x hx))
theorem text_ne {l : List Int} (h : ∀ x ∈ l, Letter x) : text l ≠ [45] := by
  intro e
  cases l with
  | nil => simp [text] at e
  | cons x r =>
    simp only [text, List.map_cons, List.cons.injEq] at e
    exact low_ne (h x (List.mem_cons_self ..)) e.1
theorem said_parses (l : List Int) : decide (Parses (said l)) = decide (IsW l) := by
  apply decide_eq_decide.2
  unfold said
  by_cases h : IsW l
  · rw [if_pos h]
    by_cases hn : l = []
    · rw [if_pos hn]; exact ⟨fun _ => h, fun _ => Or.inl rfl⟩
    · rw [if_neg hn]
      refine ⟨fun _ => h, fun _ => Or.inr ⟨?_, by rw [text_len]; exact h.2, ?_⟩⟩
      · intro e; exact hn (List.map_eq_nil_iff.1 e)
      · intro b hb
        obtain ⟨x, hx, rfl⟩ := List.mem_map.1 hb
        rw [letterOf_low_of (h.1 x hx)]; exact (h.1 x hx).1
  · rw [if_neg h]
    refine ⟨fun x => ?_, fun x => absurd x h⟩
    rcases x with x | ⟨x, _⟩
    · cases x
    · exact absurd rfl x
theorem said_parsed {l : List Int} (h : IsW l) : parsed (said l) = l := by
  unfold said
  rw [if_pos h]
  by_cases hn : l = []
  · rw [if_pos hn, hn]; rfl
  · rw [if_neg hn, parsed_of (text_ne h.1), text_letters h.1]
    refine Or.inr ⟨?_, by rw [text_len]; exact h.2, ?_⟩
    · intro e; exact hn (List.map_eq_nil_iff.1 e)
    · intro b hb
      obtain ⟨x, hx, rfl⟩ := List.mem_map.1 hb
      rw [letterOf_low_of (h.1 x hx)]; exact (h.1 x hx).1
end Word
end Go.Proofs.YtpgdmbolckogcaaDoor
namespace Go.Proofs.YtpgdmbolckogcaaDoor
open Go.RowKit

namespace Split
theorem parts_joined (c : UInt8) : ∀ ps : List (List UInt8), ps ≠ [] → (∀ p ∈ ps, c ∉ p) → parts c (Lib.join ps [c]) = ps := by
  intro ps
  induction ps with
  | nil => intro h _; exact absurd rfl h
  | cons p ps ih =>
    intro _ h
    have hp := h p (List.mem_cons_self ..)
    cases ps with
    | nil => rw [Lib.join_one]; exact parts_none c p hp
    | cons q ps =>
      have ih := ih (by simp) (fun x hx => h x (List.mem_cons_of_mem _ hx))
      have e : Lib.join (p :: q :: ps) [c] = p ++ c :: Lib.join (q :: ps) [c] := by
        simp [Lib.join, List.intercalate]
      rw [e, parts_hit c _ p hp, ih]
end Split
namespace Glue
theorem text_free {r : List Int} (h : Word.IsW r) : (32 : UInt8) ∉ Word.text r := by
  intro hm
  unfold Word.text at hm
  obtain ⟨x, hx, e⟩ := List.mem_map.1 hm
  have hl := Word.letterOf_low_of (h.1 x hx)
  rw [e] at hl
  have h0 := (h.1 x hx).1
  exact h0 (by rw [← hl]; rfl)
theorem pieces_said {L : List (List Int)} (h : IsG L) : pieces (said L) = texts L := by
  unfold said pieces Split.pieces
  rw [if_pos h]
  show (Split.parts 32 (Lib.join (Join.texts (texts L)) [32])).map (fun l => (⟨l.toArray⟩ : ByteArray)) = _
  rw [Split.parts_joined 32 _ (fun e => ?_) (fun p hp => ?_)]
  · unfold Join.texts
    rw [List.map_map]
    conv => rhs; rw [← List.map_id (texts L)]
    exact List.map_congr_left fun x _ => by simp
  · have := congrArg List.length e
    unfold Join.texts texts at this
    rw [List.length_map, List.length_map] at this
    have h1 := h.1
    simp only [List.length_nil] at this
    omega
  · unfold Join.texts texts at hp
    rw [List.map_map] at hp
    obtain ⟨r, hr, rfl⟩ := List.mem_map.1 hp
    exact text_free (h.w r hr)
theorem parsed_txt {r : List Int} (h : RowOk r) : Word.parsed (txt r).data.toList = r ∧ Word.Parses (txt r).data.toList := by
  have e : (txt r).data.toList = Word.said r := by
    rw [← said_txt h]
  rw [e]
  exact ⟨Word.said_parsed h.2, of_decide_eq_true (by rw [Word.said_parses]; exact decide_eq_true h.2)⟩
/-- The text of a gluing is parsed as that gluing. -/
theorem parsed_said {L : List (List Int)} (h : IsG L) : ParseOk (said L) ∧ parsedG (said L) = L := by
  have hr : parsedRows (pieces (said L)) = L := by
    rw [pieces_said h]
    unfold parsedRows texts
    rw [List.map_map]
    conv => rhs; rw [← List.map_id L]
    exact List.map_congr_left fun r hr => (parsed_txt (h.2.2.1 r hr)).1
  have hok : ParseOk (said L) := by
    refine ⟨fun p hp => ?_, by rw [hr]; exact h⟩
    rw [pieces_said h] at hp
    obtain ⟨r, hr, rfl⟩ := List.mem_map.1 hp
    exact (parsed_txt (h.2.2.1 r hr)).2
  refine ⟨hok, ?_⟩
  unfold parsedG
  rw [if_pos hok, hr]
/-- No gluing: the empty text, which is none. -/
theorem parsed_not {L : List (List Int)} (h : ¬ IsG L) : ¬ ParseOk (said L) := by
  unfold said
  rw [if_neg h]
  decide
end Glue
end Go.Proofs.YtpgdmbolckogcaaDoor
namespace Go.Proofs.YtpgdmbolckogcaaDoor
open Go.RowKit

/-- A text of so many bytes at most; the cursor goes on. -/
def TextGo (w : World) (g n : Nat) (e : Ending) (w' : World) : Prop := ∃ t : ByteArray, e = .returned (.string t) ∧ t.size ≤ n ∧ CurAt w' g ∧ w.grownBy w' (some g)

set_option maxRecDepth 10000 in
set_option maxHeartbeats 1000000 in
theorem l1Turned_text (g gl c : Nat) (s : ByteArray) (l : List ByteArray) (w : World) (hc : CurAt w g) (hk : Blk w gl 9 (textCells l).toArray) (hne : gl ≠ g) (h0 : 0 < l.length) (hn : l.length ≤ 1000) (hs : s.size ≤ 1000) (hl : ∀ x ∈ l, x.size ≤ 100) :
    Calls Tryd.prog 56 #[.pointer (some ⟨g, 0, none⟩), .string s, .slice (some ⟨gl, 0, none⟩) l.length c] w (TextGo w g 3000) := by
  have Hl := Lib.hid hl; clear hl
  go_enter Tryd.func56, Tryd.ntmps56
  go_wp2_with fail
  refine (l1Below g ((s.size : Int) + 1) w hc (by omega) (by omega)).mono ?_
  rintro e w1 ⟨⟨x, rfl, hx0, hx1⟩, hc1, hg1⟩
  have hk1 := hk.grown hg1 (by simpa using hne)
  obtain ⟨i, rfl⟩ := Int.eq_ofNat_of_zero_le hx0
  have hi : i ≤ s.size := by omega
  go_wp2_with fail
  refine (l1Below g 6 w1 hc1 (by omega) (by omega)).mono ?_
  rintro e w2 ⟨⟨y, rfl, hy0, hy1⟩, hc2, hg2⟩
  have hk2 := hk1.grown hg2 (by simpa using hne)
  have hgw := hg1.trans hg2
  have Hgw := Lib.hid hgw
  have Hk2 := Lib.hid hk2
  clear hk hk1 hk2 hgw
  have hsz1 : (s.extract 0 i).size ≤ 1000 := by simp [ByteArray.size_extract]; omega
  have hsz2 : (s.extract i s.size).size ≤ 1000 := by simp [ByteArray.size_extract]; omega
  have hii : (0 : Int) ≤ (i : Int) := by omega
  have his : (i : Int) ≤ (s.size : Int) := by omega
  by_cases hyz : y = 0
  · have hb0 : (y == 0) = true := by rw [beq_iff_eq]; exact hyz
    have Hsz1 := Lib.hid hsz1; have Hsz2 := Lib.hid hsz2
    go_wp2
    go_region_with (go_at_call 88; refine (l1Pick g gl c l _ (hc2.below (below_drewN (Below.refl _ w2) 1)) (Hk2.out.drewN 1) hne h0 hn).mono ?_; rintro e w3 ⟨⟨v, hv, rfl⟩, hc3, hg3⟩; obtain ⟨y2, hy2, rfl⟩ := List.mem_map.1 hv; have hys := Hl.out y2 hy2; have Hy2 := Lib.hid hy2; clear hv hy2)
    all_goals go_wp2
    all_goals
      go_ret
      refine ⟨s.extract 0 i ++ y2 ++ s.extract i s.size, rfl, ?_, hc3, (only_drewN Hgw.out 1).trans hg3⟩
      have h1 := Hsz1.out
      have h2 := Hsz2.out
      rw [ByteArray.size_append, ByteArray.size_append]; omega
  · have hb0 : (y == 0) = false := by rw [beq_eq_false_iff_ne]; exact hyz
    by_cases hyo : y = 1
    · have hb1 : (y == 1) = true := by rw [beq_iff_eq]; exact hyo
      have Hsz1 := Lib.hid hsz1
      clear hsz1 hsz2
      go_wp2
      go_ret
      exact ⟨_, rfl, Nat.le_trans Hsz1.out (by decide), hc2, Hgw.out⟩
    · have hb1 : (y == 1) = false := by rw [beq_eq_false_iff_ne]; exact hyo
      clear hsz1 hsz2
      go_wp2
      go_ret
      exact ⟨_, rfl, by omega, hc2, Hgw.out⟩
end Go.Proofs.YtpgdmbolckogcaaDoor
namespace Go.Proofs.YtpgdmbolckogcaaDoor
open Go.RowKit

theorem append_row {P : Program} {ops : Array Oper} {rest : List Oper} {o : Oper} {a : Act} {Q : Exit → Act → World → Prop} {W : World} (hgd : o.guard = none) (s x : Operand) (t : TypeId)
    (ho : o.op = .call { callee := .builtin .append, args := #[s, x], argTypes := #[t, t] })
    (base : Nat) (e : TypeId) (i : TypeInfo) (z : Value) (bytes : Nat) (ht : P.underlying t = some (.slice e)) (hi : P.info? e = some i) (hz : i.zero = some z)
    (hsize : i.size = 1) (hby : i.bytes = bytes) (hzs : z.cells.size = 1)
    (v : Value) (n : Nat) (xs : List Value) (hs : a.eval s = v) (hown : W.ownsRow base e 1 v n xs)
    (ad : Option Addr) (m c : Nat) (cs : List Value) (hx : a.eval x = .slice ad m c) (hr : RowAt W ad cs) (hm : cs.length = m) (hu : ∀ u ∈ cs, u.oneCell' = true)
    (h63 : n + m ≤ maxLen) (hbytes : (n + m) * bytes ≤ 140737488355328) (hbase : base ≤ W.heap.size)
    (h : ∀ v' w', w'.ownsRow base e 1 v' (n + m) (xs ++ cs) → W.grownBy w' v.ownBlock → wpList P ops Q rest (a.put o.dst v') w') :
    wpList P ops Q (o :: rest) a W := by
  rcases hr with rfl | ⟨b, off, rfl, hlt, hc⟩
  · obtain rfl : m = 0 := hm.symm
    have hv : ∃ bo cap, v = .slice bo n cap ∧ n ≤ cap := by
      obtain ⟨_, ⟨h1, rfl⟩ | ⟨g, cap, cur, h1, _, _, hle, _⟩⟩ := hown
      · exact ⟨none, 0, h1, Nat.le_refl _⟩
      · exact ⟨_, cap, h1, hle⟩
    obtain ⟨bo, cap, rfl, hle⟩ := hv
    have hsrc : Src P i.size t (.slice ad 0 c) 0 [] W := by
      cases ad with
      | none => exact Src.ofNil W ht c
      | some ad => exact Src.ofSlice W ht ad 0 c [] (by simp) (fun j u hj => by simp at hj) (fun _ h => by cases h)
    refine Lib.wpList_append_run_sl W hgd s x t ho _ _ hs hx (run_append_nothing W t t o.type e i ht hi bo n cap hle _ hsrc) (h _ _ ?_ (World.grownBy.refl _ _))
    simpa using hown
  · exact wpList_append_own W hgd s x t ho base e i z 1 bytes ht hi hz hsize hby hzs (by decide) v n xs hs hown ⟨b, off, none⟩ m c cs hx (by rw [hm, Nat.mul_one])
      (fun j u hj => by rw [show (⟨b, off, none⟩ : Addr).add j = ⟨b, off + j, none⟩ from by unfold Addr.add; split <;> simp_all]; exact hc j u hj) hu h63 hbytes hbase (fun v' w' h1 h2 _ => h v' w' h1 h2)
theorem intCells_one (l : List Int) : ∀ u ∈ intCells l, u.oneCell' = true := by
  intro u hu
  simp only [intCells, List.mem_map] at hu
  obtain ⟨x, _, rfl⟩ := hu
  rfl
end Go.Proofs.YtpgdmbolckogcaaDoor
namespace Go.Proofs.YtpgdmbolckogcaaDoor
open Go.RowKit

theorem grown_all {w wr w1 : World} {g : Nat} {row : Option Nat} (hg : w.grownBy wr (some g)) (h1 : wr.grownBy w1 row) (hr : ∀ k, row = some k → w.heap.size ≤ k) : w.grownBy w1 (some g) :=
  ⟨h1.os.trans hg.os, h1.tape.trans hg.tape, h1.output.trans hg.output, Nat.le_trans hg.size h1.size, fun i hi hne => (h1.block i (Nat.lt_of_lt_of_le hi hg.size) (fun e => by have := hr i e.symm; omega)).trans (hg.block i hi hne)⟩
theorem own_draw {w w' : World} {base n g : Nat} {e : TypeId} {v : Value} {xs : List Value} (h : w.ownsRow base e 1 v n xs) (hg : w.grownBy w' (some g)) (hgl : g < base) : w'.ownsRow base e 1 v n xs :=
  h.kept hg (by
    rcases h.2 with ⟨hv, _⟩ | ⟨k, cap, cur, hv, hk, _⟩
    · left; rw [hv]; rfl
    · right; rw [hv]; simp [Value.ownBlock]; omega)
def sLen : Value → Nat
  | .slice _ n _ => n
  | _ => 0
def Tiny (l : List Int) : Prop := ∀ x ∈ l, -9 ≤ x ∧ x ≤ 9
theorem Tiny.nil : Tiny [] := fun x h => by cases h
theorem Tiny.snoc {l : List Int} {x : Int} (h : Tiny l) (h0 : -9 ≤ x) (h1 : x ≤ 9) : Tiny (l ++ [x]) := by
  intro y hy
  rcases List.mem_append.1 hy with hy | hy
  · exact h y hy
  · rw [List.mem_singleton.1 hy]; exact ⟨h0, h1⟩
/-- The sides that are drawn, and how far the cursor is. -/
def Sides (w : World) (N g : Nat) (wr : World) (v : Value) (l : List Int) : Prop := wr.ownsRow N 3 1 v l.length (intCells l) ∧ Tiny l ∧ CurAt wr g ∧ w.grownBy wr (some g)

theorem kept_type {w w' : World} {base base' n n' : Nat} {e e' : TypeId} {v v' : Value} {xs xs' : List Value} (h : w.ownsRow base e 1 v n xs) (h' : w.ownsRow base' e' 1 v' n' xs') (he : e ≠ e') (hg : w.grownBy w' v'.ownBlock) : w'.ownsRow base e 1 v n xs := by
  refine h.kept hg ?_
  cases hb : v.ownBlock with
  | none => exact Or.inl rfl
  | some k =>
    right
    intro hk
    obtain ⟨c1, h1⟩ := own_type h k hb
    obtain ⟨c2, h2⟩ := own_type h' k hk.symm
    rw [h1] at h2
    injection h2 with h2; injection h2 with _ h3 _
    exact he h3
/-- append of a literal whose block's number is given. -/
theorem append_litK {P : Program} {ops : Array Oper} {rest : List Oper} {o : Oper} {a : Act} {Q : Exit → Act → World → Prop} {W : World} (u : Value) (K : Nat) (hK : W.heap.size = K) {te : TypeId} (hgd : o.guard = none) (s x : Operand) (t : TypeId)
    (ho : o.op = .call { callee := .builtin .append, args := #[s, x], argTypes := #[t, t] })
    (base : Nat) (e : TypeId) (i : TypeInfo) (z : Value) (bytes : Nat) (ht : P.underlying t = some (.slice e)) (hi : P.info? e = some i) (hz : i.zero = some z)
    (hsize : i.size = 1) (hby : i.bytes = bytes) (hzs : z.cells.size = 1)
    (v : Value) (n : Nat) (xs : List Value) (hs : a.eval s = v) (hown : W.ownsRow base e 1 v n xs)
    (hu : u.oneCell' = true) (c : Nat) (hx : a.eval x = .slice (some ⟨K, 0, none⟩) 1 c)
    (h63 : n + 1 ≤ maxLen) (hbytes : (n + 1) * bytes ≤ 140737488355328) (hbase : base ≤ W.heap.size)
    (h : ∀ v' w', w'.ownsRow base e 1 v' (n + 1) (xs ++ [u]) → (W.alloc (.cells #[u] te)).grownBy w' v.ownBlock → wpList P ops Q rest (a.put o.dst v') w') :
    wpList P ops Q (o :: rest) a (W.alloc (.cells #[u] te)) := by
  subst hK
  exact append_one hgd s x t ho base e i z bytes ht hi hz hsize hby hzs v n xs hs hown hu c hx h63 hbytes hbase (fun v' w' h1 h2 _ => h v' w' h1 h2)
def Away (u v : Value) : Prop := ∀ k, u.ownBlock = some k → v.ownBlock ≠ some k
/-- The sides and the polygons, each row in a block of its own. -/
structure Polys (w : World) (N g : Nat) (wr : World) (sv : Value) (l : List Int) (gv : Value) (hs : List Hd) : Prop where
  sides : wr.ownsRow N 3 1 sv l.length (intCells l)
  tiny : Tiny l
  cur : CurAt wr g
  gro : w.grownBy wr (some g)
  outer : wr.ownsRow N 36 1 gv hs.length (hdCells hs)
  inner : ∀ h ∈ hs, wr.ownsRow N 3 1 h.val h.l.length (intCells h.l) ∧ Tiny h.l ∧ ∃ b, h.a = some ⟨b, 0, none⟩
  away : (sv :: hs.map Hd.val).Pairwise Away
/-- One empty polygon more. -/
theorem Polys.push {w : World} {N g : Nat} {wr w3 : World} {sv : Value} {l : List Int} {gv v3 : Value} {hs : List Hd} {o : Obj} (R : Polys w N g wr sv l gv hs) (hN : w.heap.size = N) (hgN : g < N)
    (hg : ((wr.alloc (.cells #[] 3)).alloc o).grownBy w3 gv.ownBlock) (hown : w3.ownsRow N 36 1 v3 (hs.length + 1) (hdCells hs ++ [.slice (some ⟨wr.heap.size, 0, none⟩) 0 0])) :
    Polys w N g w3 sv l v3 (hs ++ [⟨some ⟨wr.heap.size, 0, none⟩, 0, []⟩]) := by
  have hout := (R.outer.alloc (.cells #[] 3)).alloc o
  have hrow : ∀ q, gv.ownBlock = some q → N ≤ q := fun q hq => (R.outer.lt q hq).1
  have hNr : N ≤ wr.heap.size := by have := R.gro.size; omega
  have hnew : w3.ownsRow N 3 1 (.slice (some ⟨wr.heap.size, 0, none⟩) 0 0) 0 (intCells []) :=
    kept_type (own_mono ((own_made (w := wr) rfl).alloc o) hNr) hout (by decide) hg
  refine ⟨kept_type ((R.sides.alloc _).alloc o) hout (by decide) hg, R.tiny, ((R.cur.alloc _).alloc o).above hg (fun q hq => by have := hrow q hq; omega),
    grown_all ((R.gro.trans (World.grownBy_alloc _ _ _)).trans (World.grownBy_alloc _ _ _)) hg (fun q hq => by rw [hN]; exact hrow q hq), ?_, fun h hh => ?_, ?_⟩
  · rw [List.length_append, ← hdCells_snoc]; exact hown
  · rcases List.mem_append.1 hh with hh | hh
    · exact ⟨kept_type (((R.inner h hh).1.alloc _).alloc o) hout (by decide) hg, (R.inner h hh).2⟩
    · rw [List.mem_singleton.1 hh]; exact ⟨hnew, Tiny.nil, _, rfl⟩
  · rw [List.map_append, ← List.cons_append, List.pairwise_append]
    refine ⟨R.away, List.pairwise_singleton _ _, fun u hu v hv => ?_⟩
    rw [List.mem_singleton.1 hv]
    intro k hk hk2
    have hk3 : k = wr.heap.size := by cases hk2; rfl
    rcases List.mem_cons.1 hu with rfl | hu
    · have := (R.sides.lt k hk).2; omega
    · obtain ⟨h, hh, rfl⟩ := List.mem_map.1 hu
      have := ((R.inner h hh).1.lt k hk).2; omega

theorem Polys.draw {w : World} {N g : Nat} {wr w2 : World} {sv : Value} {l : List Int} {gv : Value} {hs : List Hd} (R : Polys w N g wr sv l gv hs) (hgN : g < N) (hc : CurAt w2 g) (hg : wr.grownBy w2 (some g)) : Polys w N g w2 sv l gv hs :=
  ⟨own_draw R.sides hg hgN, R.tiny, hc, R.gro.trans hg, own_draw R.outer hg hgN, fun h hh => ⟨own_draw (R.inner h hh).1 hg hgN, (R.inner h hh).2⟩, R.away⟩
theorem Polys.cell {w : World} {N g G n cg : Nat} {wr : World} {sv : Value} {l : List Int} {hs : List Hd} (R : Polys w N g wr sv l (.slice (some ⟨G, 0, none⟩) n cg) hs) (hn : hs.length = n) {p : Nat} {h : Hd} (hp : hs[p]? = some h) :
    wr.cell? ⟨G, p, none⟩ = some (.slice h.a h.l.length h.c) := by
  obtain ⟨h1, rfl⟩ := List.getElem?_eq_some_iff.1 hp
  have ho := R.outer
  rw [hn] at ho
  rw [ho.cellAt p (by omega), hdCells_get h1]; rfl
theorem own_cap {w : World} {base n c : Nat} {e : TypeId} {a : Addr} {xs : List Value} (h : w.ownsRow base e 1 (.slice (some a) n c) n xs) : n ≤ c ∧ c ≤ maxLen := by
  obtain ⟨_, ⟨h1, _⟩ | ⟨g, cap, cur, h1, _, _, hle, hmx, _⟩⟩ := h
  · cases h1
  · cases h1; exact ⟨hle, hmx⟩
theorem own_rowat {w : World} {base c b : Nat} {l : List Int} (h : w.ownsRow base 3 1 (.slice (some ⟨b, 0, none⟩) l.length c) l.length (intCells l)) : RowAt w (some ⟨b, 0, none⟩) (intCells l) := by
  obtain ⟨a', c', he, _, hf⟩ := own_fresh h (intCells_len l)
  cases he
  exact hf.row
theorem row_dropped {w : World} {b m : Nat} {l : List Int} (h : RowAt w (some ⟨b, 0, none⟩) (intCells l)) : RowAt w (some ⟨b, m, none⟩) (intCells (l.drop m)) := by
  rw [show (⟨b, m, none⟩ : Addr) = ⟨b, 0 + m, none⟩ by rw [Nat.zero_add]]
  rcases h with h | ⟨b', o', e, hlt, hc⟩
  · left
    have : l = [] := by simpa [intCells] using h
    rw [this]; simp [intCells]
  · cases e
    refine Or.inr ⟨b, 0 + m, rfl, hlt, fun i v hv => ?_⟩
    rw [Nat.add_assoc]
    refine hc (m + i) v ?_
    simpa [intCells, List.getElem?_drop] using hv
/-- append of a row to a row of the call's own, as a step of a region that draws. -/
theorem step_append_row2 {P : Program} {ops : Array Oper} {o : Oper} {a : Act} {W : World} {K : Act → World → Prop} {Q : Exit → Act → World → Prop} {E : Prop} (hgd : o.guard = none) (s x : Operand) (t : TypeId)
    (ho : o.op = .call { callee := .builtin .append, args := #[s, x], argTypes := #[t, t] })
    (base : Nat) (e : TypeId) (i : TypeInfo) (z : Value) (bytes : Nat) (ht : P.underlying t = some (.slice e)) (hi : P.info? e = some i) (hz : i.zero = some z)
    (hsize : i.size = 1) (hby : i.bytes = bytes) (hzs : z.cells.size = 1)
    (v : Value) (n : Nat) (xs : List Value) (hs : a.eval s = v) (hown : W.ownsRow base e 1 v n xs)
    (ad : Option Addr) (m c : Nat) (cs : List Value) (hx : a.eval x = .slice ad m c) (hr : RowAt W ad cs) (hm : cs.length = m) (hu : ∀ u ∈ cs, u.oneCell' = true)
    (h63 : n + m ≤ maxLen) (hbytes : (n + m) * bytes ≤ 140737488355328) (hbase : base ≤ W.heap.size)
    (h : ∀ v' w', w'.ownsRow base e 1 v' (n + m) (xs ++ cs) → W.grownBy w' v.ownBlock → K (a.put o.dst v') w') :
    if Region.wanted o (yielded ops a.tmps) = true then Oper.wp P o a W K Q else E := by
  have hw : Region.wanted o (yielded ops a.tmps) = true := by simp [Region.wanted, hgd]
  rw [if_pos hw]
  rcases hr with rfl | ⟨b, off, rfl, hlt, hc⟩
  · obtain rfl : m = 0 := hm.symm
    have hv : ∃ bo cap, v = .slice bo n cap ∧ n ≤ cap := by
      obtain ⟨_, ⟨h1, rfl⟩ | ⟨g, cap, cur, h1, _, _, hle, _⟩⟩ := hown
      · exact ⟨none, 0, h1, Nat.le_refl _⟩
      · exact ⟨_, cap, h1, hle⟩
    obtain ⟨bo, cap, rfl, hle⟩ := hv
    have hsrc : Src P i.size t (.slice ad 0 c) 0 [] W := by
      cases ad with
      | none => exact Src.ofNil W ht c
      | some ad => exact Src.ofSlice W ht ad 0 c [] (by simp) (fun j u hj => by simp at hj) (fun _ h => by cases h)
    refine Lib.wp_append_run_sl W s x t ho _ _ hs hx (run_append_nothing W t t o.type e i ht hi bo n cap hle _ hsrc) (h _ _ ?_ (World.grownBy.refl _ _))
    simpa using hown
  · exact wp_append_own W s x t ho base e i z 1 bytes ht hi hz hsize hby hzs (by decide) v n xs hs hown ⟨b, off, none⟩ m c cs hx (by rw [hm, Nat.mul_one])
      (fun j u hj => by rw [show (⟨b, off, none⟩ : Addr).add j = ⟨b, off + j, none⟩ from by unfold Addr.add; split <;> simp_all]; exact hc j u hj) hu h63 hbytes hbase (fun v' w' h1 h2 _ => h v' w' h1 h2)

/-- append of one element, as a step of a region that draws, and where the row lies then. -/
theorem step_append_lit {P : Program} {ops : Array Oper} {o : Oper} {a : Act} {W : World} {K : Act → World → Prop} {Q : Exit → Act → World → Prop} {E : Prop} (u : Value) (k : Nat) (hk : W.heap.size = k) {te : TypeId} (hgd : o.guard = none) (s x : Operand) (t : TypeId)
    (ho : o.op = .call { callee := .builtin .append, args := #[s, x], argTypes := #[t, t] })
    (base : Nat) (e : TypeId) (i : TypeInfo) (z : Value) (bytes : Nat) (ht : P.underlying t = some (.slice e)) (hi : P.info? e = some i) (hz : i.zero = some z)
    (hsize : i.size = 1) (hby : i.bytes = bytes) (hzs : z.cells.size = 1)
    (v : Value) (n : Nat) (xs : List Value) (hs : a.eval s = v) (hown : W.ownsRow base e 1 v n xs)
    (hu : u.oneCell' = true) (c : Nat) (hx : a.eval x = .slice (some ⟨k, 0, none⟩) 1 c)
    (h63 : n + 1 ≤ maxLen) (hbytes : (n + 1) * bytes ≤ 140737488355328) (hbase : base ≤ W.heap.size)
    (h : ∀ v' w', w'.ownsRow base e 1 v' (n + 1) (xs ++ [u]) → (W.alloc (.cells #[u] te)).grownBy w' v.ownBlock → (v'.ownBlock = v.ownBlock ∨ v'.ownBlock = some (k + 1)) → K (a.put o.dst v') w') :
    if Region.wanted o (yielded ops a.tmps) = true then Oper.wp P o a (W.alloc (.cells #[u] te)) K Q else E := by
  subst hk
  have hw : Region.wanted o (yielded ops a.tmps) = true := by simp [Region.wanted, hgd]
  rw [if_pos hw]
  obtain ⟨v', w', hr, h2, h3, h4⟩ := run_append_new (P := P) (W.alloc (.cells #[u] te)) base t o.type e i z 1 bytes ht hi hz hsize hby hzs (by decide) v n xs (hown.alloc _) ⟨W.heap.size, 0, none⟩ 1 c [u] rfl
    (fun j y hj => by
      cases j with
      | zero =>
        simp only [List.getElem?_cons_zero, Option.some.injEq] at hj
        subst hj
        show (W.alloc (.cells #[u] te)).cell? ⟨W.heap.size, 0, none⟩ = some u
        rw [World.cell?_alloc_at _ _ _ _ rfl]; rfl
      | succ j => simp at hj)
    (fun y hy => by simp only [List.mem_singleton] at hy; rw [hy]; exact hu) h63 hbytes (Nat.le_trans hbase (by simp))
  unfold Oper.wp execOp
  simp only [ho, resolve, invoke, builtin, Sem.run_bind, Sem.run_pure, Result.andThen_ok, List.map_toArray, List.map_cons, List.map_nil, hs, hx, hr]
  exact h v' w' h2 h3 (by rw [World.size_alloc] at h4; exact h4)
/-- A block made beside the polygons is written. -/
theorem Polys.aside {w : World} {N g : Nat} {wr w4 : World} {sv : Value} {l : List Int} {gv : Value} {hs : List Hd} {o : Obj} {K : Nat} (R : Polys w N g wr sv l gv hs) (hN : w.heap.size = N) (hK : K = wr.heap.size) (hg : (wr.alloc o).grownBy w4 (some K)) : Polys w N g w4 sv l gv hs := by
  have keep : ∀ {e : TypeId} {n : Nat} {v : Value} {xs : List Value}, wr.ownsRow N e 1 v n xs → w4.ownsRow N e 1 v n xs := fun {e n v xs} h => (h.alloc o).kept hg (by
    cases hb : v.ownBlock with
    | none => exact Or.inl rfl
    | some k =>
      right
      intro he
      injection he with he
      have := (h.lt k hb).2
      omega)
  have hNr : N ≤ wr.heap.size := by have := R.gro.size; omega
  exact ⟨keep R.sides, R.tiny, (R.cur.alloc o).above hg (fun q hq => by cases hq; have := R.cur.lt; omega), grown_all (R.gro.trans (World.grownBy_alloc _ _ _)) hg (fun q hq => by cases hq; omega), keep R.outer, fun h hh => ⟨keep (R.inner h hh).1, (R.inner h hh).2⟩, R.away⟩
/-- append of a row to a row of the call's own, as a step of a region that draws, and where the row lies then. -/
theorem step_append_rowN {P : Program} {ops : Array Oper} {o : Oper} {a : Act} {W : World} {K : Act → World → Prop} {Q : Exit → Act → World → Prop} {E : Prop} (hgd : o.guard = none) (s x : Operand) (t : TypeId)
    (ho : o.op = .call { callee := .builtin .append, args := #[s, x], argTypes := #[t, t] })
    (base : Nat) (e : TypeId) (i : TypeInfo) (z : Value) (bytes : Nat) (ht : P.underlying t = some (.slice e)) (hi : P.info? e = some i) (hz : i.zero = some z)
    (hsize : i.size = 1) (hby : i.bytes = bytes) (hzs : z.cells.size = 1)
    (v : Value) (n : Nat) (xs : List Value) (hs : a.eval s = v) (hown : W.ownsRow base e 1 v n xs)
    (ad : Option Addr) (m c : Nat) (cs : List Value) (hx : a.eval x = .slice ad m c) (hr : RowAt W ad cs) (hm : cs.length = m) (hu : ∀ u ∈ cs, u.oneCell' = true)
    (h63 : n + m ≤ maxLen) (hbytes : (n + m) * bytes ≤ 140737488355328) (hbase : base ≤ W.heap.size)
    (h : ∀ v' w', w'.ownsRow base e 1 v' (n + m) (xs ++ cs) → W.grownBy w' v.ownBlock → (v'.ownBlock = v.ownBlock ∨ v'.ownBlock = some W.heap.size) → K (a.put o.dst v') w') :
    if Region.wanted o (yielded ops a.tmps) = true then Oper.wp P o a W K Q else E := by
  have hw : Region.wanted o (yielded ops a.tmps) = true := by simp [Region.wanted, hgd]
  rw [if_pos hw]
  rcases hr with rfl | ⟨b, off, rfl, hlt, hc⟩
  · obtain rfl : m = 0 := hm.symm
    have hv : ∃ bo cap, v = .slice bo n cap ∧ n ≤ cap := by
      obtain ⟨_, ⟨h1, rfl⟩ | ⟨g, cap, cur, h1, _, _, hle, _⟩⟩ := hown
      · exact ⟨none, 0, h1, Nat.le_refl _⟩
      · exact ⟨_, cap, h1, hle⟩
    obtain ⟨bo, cap, rfl, hle⟩ := hv
    have hsrc : Src P i.size t (.slice ad 0 c) 0 [] W := by
      cases ad with
      | none => exact Src.ofNil W ht c
      | some ad => exact Src.ofSlice W ht ad 0 c [] (by simp) (fun j u hj => by simp at hj) (fun _ h => by cases h)
    refine Lib.wp_append_run_sl W s x t ho _ _ hs hx (run_append_nothing W t t o.type e i ht hi bo n cap hle _ hsrc) (h _ _ ?_ (World.grownBy.refl _ _) (Or.inl rfl))
    simpa using hown
  · obtain ⟨v', w', hrun, h2, h3, h4⟩ := run_append_new (P := P) W base t o.type e i z 1 bytes ht hi hz hsize hby hzs (by decide) v n xs hown ⟨b, off, none⟩ m c cs (by rw [hm, Nat.mul_one])
      (fun j u hj => by rw [show (⟨b, off, none⟩ : Addr).add j = ⟨b, off + j, none⟩ from by unfold Addr.add; split <;> simp_all]; exact hc j u hj) hu h63 hbytes hbase
    unfold Oper.wp execOp
    simp only [ho, resolve, invoke, builtin, Sem.run_bind, Sem.run_pure, Result.andThen_ok, List.map_toArray, List.map_cons, List.map_nil, hs, hx, hrun]
    exact h v' w' h2 h3 h4
theorem own_grown2 {w w' : World} {base n : Nat} {row : Option Nat} {e : TypeId} {v : Value} {xs : List Value} (h : w.ownsRow base e 1 v n xs) (hg : w.grownBy w' row) (hne : ∀ k, v.ownBlock = some k → row ≠ some k) : w'.ownsRow base e 1 v n xs := h.kept hg (by
  cases hb : v.ownBlock with
  | none => exact Or.inl rfl
  | some k => exact Or.inr (fun e => hne k hb e.symm))
/-- What two appends turn. -/
theorem insert_grown {w4 w5 w6 : World} {b : Nat} {o : Obj} {row5 row6 : Option Nat} (hg5 : (w4.alloc o).drew.grownBy w5 row5) (h5 : ∀ k, row5 = some k → k = b) (hg6 : w5.grownBy w6 row6) (h6 : ∀ k, row6 = some k → k = b ∨ w4.heap.size ≤ k) : w4.grownBy w6 (some b) := by
  have ha : w4.grownBy (w4.alloc o).drew none := only_drew (World.grownBy_alloc w4 o none)
  have hsz : w4.heap.size ≤ w5.heap.size := Nat.le_trans ha.size hg5.size
  refine ⟨hg6.os.trans (hg5.os.trans ha.os), hg6.tape.trans (hg5.tape.trans ha.tape), hg6.output.trans (hg5.output.trans ha.output), Nat.le_trans hsz hg6.size, fun i hi hne => ?_⟩
  have hib : i ≠ b := fun e => hne (by rw [e])
  rw [hg6.block i (Nat.lt_of_lt_of_le hi hsz) (fun e => by rcases h6 i e.symm with h | h <;> omega), hg5.block i (Nat.lt_of_lt_of_le hi ha.size) (fun e => hib (h5 i e.symm))]
  exact ha.block i hi (by simp)
/-- A side is put into a polygon. -/
theorem Polys.insert {w : World} {N g G cg b hcap p n' b6 c6 : Nat} {w4 w6 : World} {sv : Value} {l hr hr' : List Int} {hs : List Hd} (R : Polys w N g w4 sv l (.slice (some ⟨G, 0, none⟩) hs.length cg) hs) (hN : w.heap.size = N) (hgN : g < N)
    (hp : hs[p]? = some ⟨some ⟨b, 0, none⟩, hcap, hr⟩) (hG : w4.grownBy w6 (some b)) (ho : w6.ownsRow N 3 1 (.slice (some ⟨b6, 0, none⟩) n' c6) n' (intCells hr')) (hn : hr'.length = n') (ht : Tiny hr') (hb6 : b6 = b ∨ w4.heap.size ≤ b6) :
    Polys w N g (w6.setCell ⟨G, p, none⟩ (.slice (some ⟨b6, 0, none⟩) n' c6)) sv l (.slice (some ⟨G, 0, none⟩) hs.length cg) (hs.set p ⟨some ⟨b6, 0, none⟩, c6, hr'⟩) := by
  obtain ⟨hpl, hpe⟩ := List.getElem?_eq_some_iff.1 hp
  have hin := (R.inner _ (get_mem hp)).1
  have hbN := (hin.lt b rfl).1
  have hbs := (hin.lt b rfl).2
  have hGN := (R.outer.lt G rfl).1
  have haw := List.pairwise_cons.1 R.away
  have hsb : ∀ k, sv.ownBlock = some k → k ≠ b := fun k hk e => haw.1 _ (List.mem_map.2 ⟨_, get_mem hp, rfl⟩) k hk (by rw [e]; rfl)
  have ho6 : w6.ownsRow N 36 1 (.slice (some ⟨G, 0, none⟩) hs.length cg) hs.length (hdCells hs) := kept_type R.outer hin (by decide) hG
  have hst := ho6.stored p (.slice (some ⟨b6, 0, none⟩) n' c6)
  have far : ∀ {n : Nat} {v : Value} {xs : List Value}, w6.ownsRow N 3 1 v n xs → (w6.setCell ⟨G, p, none⟩ (.slice (some ⟨b6, 0, none⟩) n' c6)).ownsRow N 3 1 v n xs := fun {n v xs} h => kept_type h ho6 (by decide) hst.2
  have old : ∀ {n : Nat} {v : Value} {xs : List Value}, w4.ownsRow N 3 1 v n xs → (∀ k, v.ownBlock = some k → k ≠ b) → w6.ownsRow N 3 1 v n xs := fun {n v xs} h hne => h.kept hG (by
    cases hb : v.ownBlock with
    | none => exact Or.inl rfl
    | some k => exact Or.inr (fun e => hne k hb (Option.some.inj e)))
  have hpair := List.pairwise_iff_getElem.1 haw.2
  have hothers : ∀ j (hj : j < hs.length), j ≠ p → ∀ k, hs[j].val.ownBlock = some k → k ≠ b := fun j hj hjp k hk e => by
    have hpv : (hs[p]).val.ownBlock = some b := by rw [hpe]; rfl
    rcases Nat.lt_or_ge j p with h1 | h1
    · have := hpair j p (by simpa using hj) (by simpa using hpl) h1
      simp only [List.getElem_map] at this
      exact this k hk (by rw [hpv, e])
    · have := hpair p j (by simpa using hpl) (by simpa using hj) (by omega)
      simp only [List.getElem_map] at this
      exact this b hpv (by rw [hk, e])
  have hnewv : (⟨some ⟨b6, 0, none⟩, c6, hr'⟩ : Hd).val = .slice (some ⟨b6, 0, none⟩) n' c6 := by unfold Hd.val; rw [hn]
  refine ⟨far (old R.sides hsb), R.tiny, ?_, ?_, ?_, fun h hh => ?_, ?_⟩
  · exact ((R.cur.above hG (fun k hk => by have := Option.some.inj hk; omega))).above hst.2 (fun k hk => by have := Option.some.inj hk; omega)
  · exact grown_all (grown_all R.gro hG (fun k hk => by have := Option.some.inj hk; rw [hN]; omega)) hst.2 (fun k hk => by have := Option.some.inj hk; rw [hN]; omega)
  · rw [List.length_set]
    have := hst.1
    rw [← hnewv, show (hdCells hs).set p (⟨some ⟨b6, 0, none⟩, c6, hr'⟩ : Hd).val = hdCells (hs.set p ⟨some ⟨b6, 0, none⟩, c6, hr'⟩) from by simp [hdCells, List.map_set], hnewv] at this
    exact this
  · obtain ⟨j, hj, rfl⟩ := List.mem_iff_getElem.1 hh
    have hj' : j < hs.length := by simpa using hj
    rw [List.getElem_set]
    split
    · rw [hnewv]; rw [show (⟨some ⟨b6, 0, none⟩, c6, hr'⟩ : Hd).l.length = n' from hn]; exact ⟨far ho, ht, _, rfl⟩
    · rename_i hjp
      exact ⟨far (old (R.inner _ (List.getElem_mem hj')).1 (hothers j hj' (fun e => hjp e.symm))), (R.inner _ (List.getElem_mem hj')).2⟩
  · have hlt : ∀ j (hj : j < hs.length) k, hs[j].val.ownBlock = some k → k < w4.heap.size := fun j hj k hk => ((R.inner _ (List.getElem_mem hj)).1.lt k hk).2
    have hnb : (⟨some ⟨b6, 0, none⟩, c6, hr'⟩ : Hd).val.ownBlock = some b6 := rfl
    rw [List.pairwise_cons]
    refine ⟨fun u hu k hk hk2 => ?_, ?_⟩
    · obtain ⟨h, hh, rfl⟩ := List.mem_map.1 hu
      obtain ⟨j, hj, rfl⟩ := List.mem_iff_getElem.1 hh
      have hj' : j < hs.length := by simpa using hj
      rw [List.getElem_set] at hk2
      split at hk2
      · rw [hnb] at hk2
        have := Option.some.inj hk2
        have h1 := hsb k hk
        have h2 := (R.sides.lt k hk).2
        omega
      · exact haw.1 _ (List.mem_map.2 ⟨_, List.getElem_mem hj', rfl⟩) k hk hk2
    · rw [List.pairwise_iff_getElem]
      intro x y hx hy hxy
      have hx' : x < hs.length := by simpa using hx
      have hy' : y < hs.length := by simpa using hy
      rw [List.getElem_map, List.getElem_map, List.getElem_set, List.getElem_set]
      intro k hk hk2
      split at hk
      · rename_i e1
        split at hk2
        · omega
        · rename_i e2
          rw [hnb] at hk
          have := Option.some.inj hk
          have h1 := hothers y hy' (fun e => e2 e.symm) k hk2
          have h2 := hlt y hy' k hk2
          omega
      · rename_i e1
        split at hk2
        · rw [hnb] at hk2
          have := Option.some.inj hk2
          have h1 := hothers x hx' (fun e => e1 e.symm) k hk
          have h2 := hlt x hx' k hk
          omega
        · have := hpair x y (by simpa using hx') (by simpa using hy') hxy
          simp only [List.getElem_map] at this
          exact this k hk hk2
end Go.Proofs.YtpgdmbolckogcaaDoor
namespace Go.Proofs.YtpgdmbolckogcaaDoor
open Go.RowKit

/-- Polygons that were drawn: each has a side; the cursor goes on. -/
def PolyOut (w : World) (g : Nat) (e : Ending) (w' : World) : Prop := ∃ G cG hs sv l, e = .returned (.slice (some ⟨G, 0, none⟩) hs.length cG) ∧ Polys w w.heap.size g w' sv l (.slice (some ⟨G, 0, none⟩) hs.length cG) hs ∧ 1 ≤ hs.length ∧ hs.length ≤ 13 ∧ ∀ h ∈ hs, h.l ≠ [] ∧ h.l.length ≤ 13
set_option maxRecDepth 10000 in
set_option maxHeartbeats 4000000 in
theorem l3Draw (g : Nat) (w : World) (hc : CurAt w g) :
    Calls Tryd.prog 57 #[.pointer (some ⟨g, 0, none⟩)] w (PolyOut w g) := by
  obtain ⟨i0, hi0, hz0, hz1, hz2⟩ := info_int_parts
  have Hi0 := Lib.hid hi0; have Hz0 := Lib.hid hz0; have Hz1 := Lib.hid hz1; have Hz2 := Lib.hid hz2
  clear hi0 hz0 hz1 hz2
  have hgl := hc.lt
  generalize hN : w.heap.size = N at *
  have HN := Lib.hid hN
  have hc0 : CurAt (w.alloc (.cells #[.int .i64 0, .int .i64 0, .int .i64 1, .int .i64 2] 3)) g := hc.alloc _
  have hg0 : w.grownBy (w.alloc (.cells #[.int .i64 0, .int .i64 0, .int .i64 1, .int .i64 2] 3)) (some g) := World.grownBy_alloc _ _ _
  go_enter Tryd.func57, Tryd.ntmps57
  go_wp2_with fail
  refine (l1PickInt g N 4 [0, 0, 1, 2] _ hc0 (by have h := Blk.new w 3 #[.int .i64 0, .int .i64 0, .int .i64 1, .int .i64 2]; rw [hN] at h; exact h) (by omega) (by decide) (by decide)).mono ?_
  rintro e w1 ⟨⟨pv, hpv, rfl⟩, hc1, hg1⟩
  obtain ⟨P, hP0, hP1, rfl⟩ : ∃ P : Int, 0 ≤ P ∧ P ≤ 2 ∧ pv = .int .i64 P := by
    simp only [intCells, List.map_cons, List.map_nil, List.mem_cons, List.not_mem_nil, or_false] at hpv
    rcases hpv with rfl | rfl | rfl | rfl
    · exact ⟨0, by omega, by omega, rfl⟩
    · exact ⟨0, by omega, by omega, rfl⟩
    · exact ⟨1, by omega, by omega, rfl⟩
    · exact ⟨2, by omega, by omega, rfl⟩
  have hN1 : N ≤ w1.heap.size := by have := hg1.size; simp at this; omega
  have hgw1 := Lib.hid (hg0.trans hg1); have Hc1 := Lib.hid hc1
  clear hc0 hg0 hc1 hg1 hpv
  go_wp2
  go_loopw [4, 5] (fun sv xv wr => ∃ (k : Nat) (l : List Int), xv = .int .i64 (k : Int) ∧ 1 ≤ k ∧ k ≤ 7 ∧ k ≤ l.length + 1 ∧ l.length + 2 ≤ 2 * k ∧ Hid (Sides w N g wr sv l)) (fun _ xv _ => (8 - intOf xv).toNat)
  case atStart => exact ⟨1, [], rfl, by omega, by omega, by simp, by simp, Lib.hid ⟨own_mono (own_made rfl) hN1, Tiny.nil, Hc1.out.alloc _, hgw1.out.trans (World.grownBy_alloc _ _ _)⟩⟩
  case round =>
    obtain ⟨k, l, rfl, hk1, hk7, hl1, hl2, hS⟩ := hrel
    obtain ⟨hown, hT, hcr, hgr⟩ := hS.out
    have hNr : N ≤ wr.heap.size := by have := hgr.size; rw [HN.out] at this; exact this
    have HT := Lib.hid hT; have Hcr := Lib.hid hcr; have Hgr := Lib.hid hgr; have Hown := Lib.hid hown
    clear hown hT hcr hgr hS
    go_wp2_with fail
    refine (l1Below g 5 wr Hcr.out (by omega) (by omega)).mono ?_
    rintro e w2 ⟨⟨y, rfl, hy0, hy1⟩, hc2, hg2⟩
    have hown2 := own_draw Hown.out hg2 hgl
    have Hc2 := Lib.hid hc2; have Hg2 := Lib.hid (Hgr.out.trans hg2)
    have hN2 : N ≤ w2.heap.size := by have := hg2.size; omega
    clear hc2 hg2 Hcr Hgr Hown
    by_cases hky : (k : Int) ≤ 2 + y
    · have dk : decide ((k : Int) ≤ 2 + y) = true := decide_eq_true hky
      have hk6 : k ≤ 6 := by omega
      have hq1 : l.length + 1 ≤ maxLen := by unfold maxLen; omega
      have hq2 : (l.length + 1) * 8 ≤ 140737488355328 := by omega
      obtain ⟨av, cv, rfl⟩ := own_len hown2
      have hrow : ∀ q, (Value.slice av l.length cv).ownBlock = some q → N ≤ q := fun q hq => (hown2.lt q hq).1
      have Hrow := Lib.hid hrow; have Hky := Lib.hid hky
      clear hrow hky
      go_wp2_with (at_builtin; refine append_one rfl (.tmp 24) (.tmp 26) 36 rfl N 3 i0 _ 8 Tryd.underlying36 Hi0.out Hz0.out Hz1.out Hz2.out (by rfl) _ _ _ rfl hown2 (by rfl) _ rfl hq1 hq2 hN2 ?_; intro v3 w3 hown3 hg3 _)
      have hc3 : CurAt w3 g := (Hc2.out.alloc _).above hg3 (fun q hq => by have := Hrow.out q hq; omega)
      have hgw3 : w.grownBy w3 (some g) := grown_all (Hg2.out.trans (World.grownBy_alloc _ _ _)) hg3 (fun q hq => by rw [HN.out]; exact Hrow.out q hq)
      rw [intCells_snoc] at hown3
      have Hown3 := Lib.hid hown3; have Hc3 := Lib.hid hc3; have Hgw3 := Lib.hid hgw3
      clear hown3 hc3 hgw3 hg3 hown2 Hc2 Hg2 Hrow
      go_wp2_with fail
      refine (l1Once g 4 w3 Hc3.out (by omega) (by omega)).mono ?_
      rintro e w4 ⟨⟨once, rfl⟩, hc4, hg4⟩
      have hown4 := own_draw Hown3.out hg4 hgl
      have Hown4 := Lib.hid hown4; have Hc4 := Lib.hid hc4; have Hgw4 := Lib.hid (Hgw3.out.trans hg4)
      clear hown4 hc4 hg4 Hown3 Hc3 Hgw3
      have hTk := HT.out.snoc (x := (k : Int)) (by omega) (by omega)
      have HTk := Lib.hid hTk; clear hTk
      cases once with
      | true =>
        go_wp2
        go_roundw
        case rel => exact ⟨k + 1, l ++ [(k : Int)], by go_num, by omega, by omega, by simp; omega, by simp; omega, Lib.hid ⟨by rw [List.length_append]; exact Hown4.out, HTk.out, Hc4.out, Hgw4.out⟩⟩
        case measure => simp [intOf] <;> omega
      | false =>
        go_wp2_with fail
        refine (l1Below g 2 w4 Hc4.out (by omega) (by omega)).mono ?_
        rintro e w5 ⟨⟨z, rfl, hz0, hz1⟩, hc5, hg5⟩
        have hown5 := own_draw Hown4.out hg5 hgl
        have Hc5 := Lib.hid hc5; have Hg5 := Lib.hid (Hgw4.out.trans hg5)
        have hN5 : N ≤ w5.heap.size := by have := Hg5.out.size; rw [HN.out] at this; exact this
        clear hc5 hg5 Hc4 Hgw4 Hown4
        obtain ⟨bv, dv, rfl⟩ := own_len hown5
        have hrow : ∀ q, (Value.slice bv (l.length + 1) dv).ownBlock = some q → N ≤ q := fun q hq => (hown5.lt q hq).1
        have Hrow := Lib.hid hrow
        have hq3 : l.length + 1 + 1 ≤ maxLen := by unfold maxLen; omega
        have hq4 : (l.length + 1 + 1) * 8 ≤ 140737488355328 := by omega
        clear hrow hq1 hq2
        rcases (show z = 0 ∨ z = 1 by omega) with rfl | rfl
        · clear hz0 hz1
          go_wp2_with (at_builtin; refine append_one rfl (.tmp 31) (.tmp 38) 36 rfl N 3 i0 _ 8 Tryd.underlying36 Hi0.out Hz0.out Hz1.out Hz2.out (by rfl) _ _ _ rfl hown5 (by rfl) _ rfl hq3 hq4 hN5 ?_; intro v6 w6 hown6 hg6 _)
          go_roundw
          case rel =>
            refine ⟨k + 1, (l ++ [(k : Int)]) ++ [(k : Int)], by go_num, by omega, by omega, by simp; omega, by simp; omega, Lib.hid ⟨?_, HTk.out.snoc (by omega) (by omega), (Hc5.out.alloc _).above hg6 (fun q hq => by have := Hrow.out q hq; omega), grown_all (Hg5.out.trans (World.grownBy_alloc _ _ _)) hg6 (fun q hq => by rw [HN.out]; exact Hrow.out q hq)⟩⟩
            rw [List.length_append, List.length_append, ← intCells_snoc]; simpa using hown6
          case measure => simp [intOf] <;> omega
        · clear hz0 hz1
          go_wp2_with (at_builtin; refine append_one rfl (.tmp 31) (.tmp 38) 36 rfl N 3 i0 _ 8 Tryd.underlying36 Hi0.out Hz0.out Hz1.out Hz2.out (by rfl) _ _ _ rfl hown5 (by rfl) _ rfl hq3 hq4 hN5 ?_; intro v6 w6 hown6 hg6 _)
          go_roundw
          case rel =>
            refine ⟨k + 1, (l ++ [(k : Int)]) ++ [-(k : Int)], by go_num, by omega, by omega, by simp; omega, by simp; omega, Lib.hid ⟨?_, HTk.out.snoc (by omega) (by omega), (Hc5.out.alloc _).above hg6 (fun q hq => by have := Hrow.out q hq; omega), grown_all (Hg5.out.trans (World.grownBy_alloc _ _ _)) hg6 (fun q hq => by rw [HN.out]; exact Hrow.out q hq)⟩⟩
            rw [List.length_append, List.length_append, ← intCells_snoc]; simpa using hown6
          case measure => simp [intOf] <;> omega
    · have dk : decide ((k : Int) ≤ 2 + y) = false := decide_eq_false hky
      have hl3 : 2 ≤ l.length := by omega
      have hl12 : l.length ≤ 12 := by omega
      have HS := Lib.hid (show Sides w N g w2 u4 l from ⟨hown2, HT.out, Hc2.out, Hg2.out⟩)
      clear hown2 HT Hc2 Hg2 hky hN2 hNr hk1 hk7 hl1 hl2
      go_wp2
      clear dk
      go_loopw [3, 4] (fun pv sv wr => ∃ (n : Nat) (l : List Int), pv = .int .i64 (n : Int) ∧ 1 ≤ n ∧ (n ≤ 3 ∨ n = l.length) ∧ 2 ≤ l.length ∧ l.length ≤ 13 ∧ Hid (Sides w N g wr sv l)) (fun pv sv _ => (intOf pv - (sLen sv : Int)).toNat)
      case atStart => exact ⟨(1 + P).toNat, l, by rw [Int.toNat_of_nonneg (by omega)], by omega, Or.inl (by omega), hl3, by omega, HS⟩
      case round =>
        clear hl3 hl12 HS
        obtain ⟨n, l, rfl, hn1, hn2, hl3, hl13, hS⟩ := hrel
        obtain ⟨hown, hT, hcr, hgr⟩ := hS.out
        have hNr : N ≤ wr.heap.size := by have := hgr.size; rw [HN.out] at this; exact this
        obtain ⟨av, cv, rfl⟩ := own_len hown
        by_cases hlt : l.length < n
        · have dl : decide ((l.length : Int) < (n : Int)) = true := decide_eq_true (by omega)
          have hl2 : l.length = 2 := by omega
          have hrow : ∀ q, (Value.slice av l.length cv).ownBlock = some q → N ≤ q := fun q hq => (hown.lt q hq).1
          have Hrow := Lib.hid hrow
          have HT := Lib.hid hT; have Hcr := Lib.hid hcr; have Hgr := Lib.hid hgr; have Hl2 := Lib.hid hl2
          have hq1 : l.length + 1 ≤ maxLen := by unfold maxLen; omega
          have hq2 : (l.length + 1) * 8 ≤ 140737488355328 := by omega
          have Hlt := Lib.hid hlt
          clear hrow hT hcr hgr hS hl2 hlt hn2
          go_wp2_with (at_builtin; refine append_one rfl (.tmp 44) (.tmp 45) 36 rfl N 3 i0 _ 8 Tryd.underlying36 Hi0.out Hz0.out Hz1.out Hz2.out (by rfl) _ _ _ rfl hown (by rfl) _ rfl hq1 hq2 hNr ?_; intro v3 w3 hown3 hg3 _; obtain ⟨av3, cv3, rfl⟩ := own_len hown3)
          go_roundw
          case rel =>
            refine ⟨l.length + 1, l ++ [8], by go_num, by omega, Or.inr (by simp), by simp; omega, by have := Hl2.out; simp; omega, Lib.hid ⟨?_, HT.out.snoc (by omega) (by omega), (Hcr.out.alloc _).above hg3 (fun q hq => by have := Hrow.out q hq; omega), grown_all (Hgr.out.trans (World.grownBy_alloc _ _ _)) hg3 (fun q hq => by rw [HN.out]; exact Hrow.out q hq)⟩⟩
            rw [List.length_append, ← intCells_snoc]; simpa using hown3
          case measure => have := Hlt.out; simp [intOf, sLen] <;> omega
        · have dl : decide ((l.length : Int) < (n : Int)) = false := decide_eq_false (by omega)
          have dl' : decide (l.length < n) = false := decide_eq_false (by omega)
          have hln : n ≤ l.length := by omega
          have hn13 : n ≤ 13 := by omega
          have HS2 := Lib.hid (show Sides w N g wr (.slice av l.length cv) l from ⟨hown, hT, hcr, hgr⟩)
          clear hown hT hcr hgr hS hlt hn2
          go_wp2
          clear dl dl'
          obtain ⟨i1, hi1, hy0, hy1, hy2⟩ := info_ints_parts
          have Hi1 := Lib.hid hi1; have Hy0 := Lib.hid hy0; have Hy1 := Lib.hid hy1; have Hy2 := Lib.hid hy2
          clear hi1 hy0 hy1 hy2
          go_loopw [6, 7] (fun gv iv wr => ∃ (i : Nat) (hs : List Hd), iv = .int .i64 (i : Int) ∧ i ≤ n ∧ hs.length = i ∧ Hid ((∀ h ∈ hs, h.l = []) ∧ Polys w N g wr (.slice av l.length cv) l gv hs)) (fun _ iv _ => (n - intOf iv).toNat)
          case atStart =>
            obtain ⟨h1, h2, h3, h4⟩ := HS2.out
            exact ⟨0, [], rfl, Nat.zero_le _, rfl, Lib.hid ⟨fun _ h => (by cases h), h1.alloc _, h2, h3.alloc _, h4.trans (World.grownBy_alloc _ _ _), own_mono (made_rows rfl) hNr, fun _ h => (by cases h), List.pairwise_singleton _ _⟩⟩
          case round =>
            clear HS2 hNr
            obtain ⟨i, hs, rfl, hin, hsl, hR⟩ := hrel
            obtain ⟨he, R⟩ := hR.out
            have hNr : N ≤ wr.heap.size := by have := R.gro.size; rw [HN.out] at this; exact this
            have hout := R.outer
            rw [hsl] at hout
            obtain ⟨ag, cg, rfl⟩ := own_len hout
            by_cases hlt : i < n
            · have dl : decide ((i : Int) < (n : Int)) = true := decide_eq_true (by omega)
              have dl' : decide (i < n) = true := decide_eq_true (by omega)
              have HR := Lib.hid R; have He := Lib.hid he; have Hsl := Lib.hid hsl; have Hlt := Lib.hid hlt
              have hout1 := hout.alloc (.cells #[] 3)
              have hN1 : N ≤ (wr.alloc (.cells #[] 3)).heap.size := by simp; omega
              have hK1 : (wr.alloc (.cells #[] 3)).heap.size = wr.heap.size + 1 := by simp
              have hq1 : i + 1 ≤ maxLen := by unfold maxLen; omega
              have hq2 : (i + 1) * 24 ≤ 140737488355328 := by omega
              clear R he hsl hR hlt hout
              go_wp2_with (at_builtin; refine append_litK (.slice (some ⟨wr.heap.size, 0, none⟩) 0 0) (wr.heap.size + 1) hK1 rfl (.tmp 55) (.tmp 57) 22 rfl N 36 i1 _ 24 Tryd.underlying22 Hi1.out Hy0.out Hy1.out Hy2.out (by rfl) _ _ _ rfl hout1 (by rfl) _ rfl hq1 hq2 hN1 ?_; intro v3 w3 hown3 hg3)
              go_roundw
              case rel =>
                refine ⟨i + 1, hs ++ [⟨some ⟨wr.heap.size, 0, none⟩, 0, []⟩], by go_num, by have := Hlt.out; omega, by rw [List.length_append, Hsl.out]; rfl, Lib.hid ⟨fun h hh => ?_, HR.out.push HN.out hgl hg3 (by rw [Hsl.out]; exact hown3)⟩⟩
                rcases List.mem_append.1 hh with hh | hh
                · exact He.out h hh
                · rw [List.mem_singleton.1 hh]
              case measure => have := Hlt.out; simp [intOf] <;> omega
            · have dl : decide ((i : Int) < (n : Int)) = false := decide_eq_false (by omega)
              have dl' : decide (i < n) = false := decide_eq_false (by omega)
              have hie : i = n := by omega
              subst hie
              have HR := Lib.hid R; have Hsl := Lib.hid hsl
              obtain ⟨B, cB, hfB, _, _⟩ := own_form R.sides (by omega)
              injection hfB with hg1 hg2 hg3
              subst hg1; subst hg3
              obtain ⟨G, cG, hform, hGc, hGm⟩ := own_form hout (by omega)
              injection hform with hf1 hf2 hf3
              subst hf1; subst hf3
              have hcells : ∀ h ∈ hs, h.l.length ≤ 0 := fun h hh => by rw [he h hh]; simp
              have Hce := Lib.hid hcells
              clear R he hsl hR hlt hout hin hcells
              go_wp2
              clear dl dl'
              go_loopw [8] (fun kv wr => ∃ (k : Nat) (hs : List Hd), kv = .int .i64 (k : Int) ∧ k ≤ l.length ∧ hs.length = i ∧ Hid ((∀ q h, q < k → hs[q]? = some h → h.l ≠ []) ∧ (∀ h ∈ hs, h.l.length ≤ k) ∧ Polys w N g wr (.slice (some ⟨B, 0, none⟩) l.length cv) l (.slice (some ⟨G, 0, none⟩) i cg) hs)) (fun kv _ => (l.length - intOf kv).toNat)
              case atStart => exact ⟨0, hs, rfl, Nat.zero_le _, Hsl.out, Lib.hid ⟨fun q _ h => by omega, Hce.out, HR.out⟩⟩
              case round =>
                clear Hce HR Hsl hNr
                obtain ⟨k, hs, rfl, hkl, hsl, hR⟩ := hrel
                obtain ⟨hne, hle, R⟩ := hR.out
                have HR := Lib.hid R; have Hsl := Lib.hid hsl; have Hne := Lib.hid hne; have Hle := Lib.hid hle
                clear R hR hne hle hsl
                by_cases hlt : k < l.length
                · have dl : decide ((k : Int) < (l.length : Int)) = true := decide_eq_true (by omega)
                  have dl' : decide (k < l.length) = true := decide_eq_true hlt
                  go_wp2_with fail
                  refine (l1Below g (i : Int) wr HR.out.cur (by omega) (by omega)).mono ?_
                  rintro e w2 ⟨⟨x, rfl, hx0, hx1⟩, hc2, hg2⟩
                  have HR2 := Lib.hid (HR.out.draw hgl hc2 hg2)
                  clear HR hc2 hg2
                  by_cases hki : k < i
                  · have dk : decide ((k : Int) < (i : Int)) = true := decide_eq_true (by omega)
                    have dk' : decide (k < i) = true := decide_eq_true hki
                    obtain ⟨h, hp⟩ := get_some (l := hs) (i := k) (by have := Hsl.out; omega)
                    have hcell := HR2.out.cell Hsl.out hp
                    obtain ⟨hown, hT, b, hb⟩ := HR2.out.inner h (get_mem hp)
                    obtain ⟨ha, hcap, hr⟩ := h
                    simp only at hb hown hcell hT
                    subst hb
                    have hp0 : (0 : Int) ≤ (k : Int) := by omega
                    have hp1 : (k : Int) < (i : Int) := by omega
                    have hrk : hr.length ≤ k := by have := Hle.out _ (get_mem hp); simpa using this
                    have hr9 : hr.length ≤ 13 := by omega
                    have Hp := Lib.hid hp; have HT := Lib.hid hT
                    clear hp hown hT
                    go_wp2_with fail
                    refine (l1Below g ((hr.length : Int) + 1) w2 HR2.out.cur (by omega) (by omega)).mono ?_
                    rintro e w3 ⟨⟨m0, rfl, hm0, hm1⟩, hc3, hg3⟩
                    obtain ⟨m, rfl⟩ : ∃ m : Nat, m0 = (m : Int) := ⟨m0.toNat, by omega⟩
                    have hml : m ≤ hr.length := by omega
                    have HR3 := Lib.hid (HR2.out.draw hgl hc3 hg3)
                    have hown3 := (HR3.out.inner _ (get_mem Hp.out)).1
                    simp only [Hd.val] at hown3
                    obtain ⟨hc0, hcm⟩ := own_cap hown3
                    have hcell3 := HR3.out.cell Hsl.out Hp.out
                    simp only at hcell3
                    have hmc : m ≤ hcap := by omega
                    have hbase : w3.heap.size ≤ (w3.alloc (.cells #[] 3)).heap.size := by simp
                    have Hmade := Lib.hid (own_made (w := w3) rfl)
                    have Hdl : Hid ((intCells (hr.drop m)).length = hr.length - m) := Lib.hid (by rw [intCells_len, List.length_drop])
                    have hq1 : 0 + (hr.length - m) ≤ maxLen := by unfold maxLen; omega
                    have hq2 : (0 + (hr.length - m)) * 8 ≤ 140737488355328 := by omega
                    have hrow3 := own_rowat hown3
                    have hcell4 : (w3.alloc (.cells #[] 3)).cell? ⟨G, k, none⟩ = some (.slice (some ⟨b, 0, none⟩) hr.length hcap) := by
                      rw [((Below.refl w3.heap.size w3).alloc (Nat.le_refl _) (.cells #[] 3)).cell (p := ⟨G, k, none⟩) (HR3.out.outer.lt G rfl).2]; exact hcell3
                    obtain ⟨A, hA⟩ : ∃ A, (if hcap = m then some (⟨b, 0, none⟩ : Addr) else some ⟨b, m, none⟩) = A := ⟨_, rfl⟩
                    have Hdrop : Hid (RowAt (w3.alloc (.cells #[] 3)) A (intCells (hr.drop m))) := Lib.hid (by
                      rw [← hA]
                      split
                      · rename_i e; exact Or.inl (by rw [List.drop_eq_nil_of_le (by omega)]; rfl)
                      · exact row_dropped (hrow3.below ((Below.refl _ _).alloc (Nat.le_refl _) _)))
                    clear HR2 hc3 hg3 hcell hown3 hm0 hm1 hrow3
                    go_wp2_with (at_builtin; refine append_row rfl (.tmp 80) (.tmp 86) 36 rfl w3.heap.size 3 i0 _ 8 Tryd.underlying36 Hi0.out Hz0.out Hz1.out Hz2.out (by rfl) _ 0 (intCells []) rfl Hmade.out _ (hr.length - m) _ (intCells (hr.drop m)) rfl Hdrop.out Hdl.out (intCells_one _) hq1 hq2 hbase ?_; intro v4 w4 hown4 hg4; obtain ⟨av4, cv4, rfl⟩ := own_len hown4)
                    have HR4 := Lib.hid (HR3.out.aside HN.out rfl hg4)
                    have hNw3 : N ≤ w3.heap.size := by have := HR3.out.gro.size; have := HN.out; omega
                    rw [Nat.zero_add, show intCells [] ++ intCells (hr.drop m) = intCells (hr.drop m) from rfl] at hown4
                    have hNw4 : N ≤ w4.heap.size := by have := HR4.out.gro.size; have := HN.out; omega
                    have hcell5 := HR4.out.cell Hsl.out Hp.out
                    simp only at hcell5
                    have hside5 : w4.cell? ⟨B, k, none⟩ = some (.int .i64 (l[k]'hlt)) := own_cell HR4.out.sides hlt rfl
                    have hcell6 : ∀ o : Obj, (w4.alloc o).cell? ⟨G, k, none⟩ = some (.slice (some ⟨b, 0, none⟩) hr.length hcap) := fun o => by
                      rw [((Below.refl w4.heap.size w4).alloc (Nat.le_refl _) o).cell (p := ⟨G, k, none⟩) (HR4.out.outer.lt G rfl).2]; exact hcell5
                    have hk0 : (0 : Int) ≤ (k : Int) := by omega
                    have hk1 : (k : Int) < (l.length : Int) := by omega
                    have hX9 := HR4.out.tiny (l[k]'hlt) (List.getElem_mem hlt)
                    have htake := own_take (HR4.out.inner _ (get_mem Hp.out)).1 hml
                    rw [intCells_take] at htake
                    have Htake : Hid ((w4.alloc (.cells #[.int .i64 (l[k]'hlt)] 3)).drew.ownsRow N 3 1 (.slice (some ⟨b, 0, none⟩) m hcap) m (intCells (hr.take m))) := Lib.hid (own_drewN (htake.alloc _) 1)
                    have HRX : Hid (RowAt (w4.alloc (.cells #[.int .i64 (l[k]'hlt)] 3)).drew (some ⟨w4.heap.size, 0, none⟩) (intCells [l[k]'hlt])) := Lib.hid ((Blk.new w4 3 #[.int .i64 (l[k]'hlt)]).drew.row)
                    have Hrest : Hid ((w4.alloc (.cells #[.int .i64 (l[k]'hlt)] 3)).drew.ownsRow w3.heap.size 3 1 (.slice av4 (hr.length - m) cv4) (hr.length - m) (intCells (hr.drop m))) := Lib.hid (own_drewN (hown4.alloc _) 1)
                    have hbs : b < w3.heap.size := ((HR3.out.inner _ (get_mem Hp.out)).1.lt b rfl).2
                    have Hrest2 : Hid (∀ w5, (w4.alloc (.cells #[.int .i64 (l[k]'hlt)] 3)).drew.grownBy w5 (Value.slice (some ⟨b, 0, none⟩) m hcap).ownBlock → RowAt w5 av4 (intCells (hr.drop m)) ∧ N ≤ w5.heap.size) := Lib.hid (fun w5 hg => by
                      have h5 := own_grown2 Hrest.out hg (fun k hk e => by have := (Hrest.out.lt k hk).1; have := own_block e; omega)
                      obtain ⟨a', c', e', hr'⟩ := own_row h5 (by rw [intCells_len, List.length_drop])
                      cases e'
                      refine ⟨hr', ?_⟩
                      have := hg.size
                      simp at this
                      omega)
                    have hbs4 : b < w4.heap.size := ((HR4.out.inner _ (get_mem Hp.out)).1.lt b rfl).2
                    have hGc : ∀ w6, w4.grownBy w6 (some b) → w6.cell? ⟨G, k, none⟩ = some (.slice (some ⟨b, 0, none⟩) hr.length hcap) ∧ w6.frozen? ⟨G, k, none⟩ = false := fun w6 hG => by
                      have ho6 := kept_type HR4.out.outer (HR4.out.inner _ (get_mem Hp.out)).1 (by decide) hG
                      rw [Hsl.out] at ho6
                      refine ⟨?_, ho6.frozenAt _⟩
                      have hpl := (List.getElem?_eq_some_iff.1 Hp.out)
                      obtain ⟨h1, h2⟩ := hpl
                      rw [ho6.cellAt k (by have := Hsl.out; omega), hdCells_get h1, h2]; rfl
                    have HGc := Lib.hid hGc
                    have hins := fun (v6 : Value) (w6 : World) (hG : w4.grownBy w6 (some b)) (ho : w6.ownsRow N 3 1 v6 (hr.length + 1) (intCells (hr.take m ++ [l[k]'hlt] ++ hr.drop m))) (hb6 : v6.ownBlock = some b ∨ ∃ k, v6.ownBlock = some k ∧ w4.heap.size ≤ k) => (show ∃ b6 c6, v6 = .slice (some ⟨b6, 0, none⟩) (hr.length + 1) c6 ∧ Polys w N g (w6.setCell ⟨G, k, none⟩ v6) (.slice (some ⟨B, 0, none⟩) l.length cv) l (.slice (some ⟨G, 0, none⟩) i cg) (hs.set k ⟨some ⟨b6, 0, none⟩, c6, hr.take m ++ [l[k]'hlt] ++ hr.drop m⟩) by
                      obtain ⟨b6, c6, rfl, _, _⟩ := own_form ho (by omega)
                      refine ⟨b6, c6, rfl, ?_⟩
                      have h4 := HR4.out
                      have e := Hsl.out
                      rw [← e] at h4 ⊢
                      refine h4.insert HN.out hgl Hp.out hG ho ?_ ?_ ?_
                      · simp; omega
                      · intro y hy
                        rcases List.mem_append.1 hy with hy | hy
                        · rcases List.mem_append.1 hy with hy | hy
                          · exact HT.out y (List.mem_of_mem_take hy)
                          · rw [List.mem_singleton.1 hy]; exact hX9
                        · exact HT.out y (List.mem_of_mem_drop hy)
                      · rcases hb6 with hb6 | ⟨k6, hk6, hk7⟩
                        · exact Or.inl (own_block hb6).symm
                        · exact Or.inr (by have := own_block hk6; omega))
                    have Hins := Lib.hid hins
                    have hm3 : m + 1 ≤ maxLen := by unfold maxLen; omega
                    have hm4 : (m + 1) * 8 ≤ 140737488355328 := by omega
                    have hm5 : m + 1 + (hr.length - m) ≤ maxLen := by unfold maxLen; omega
                    have hm6 : (m + 1 + (hr.length - m)) * 8 ≤ 140737488355328 := by omega
                    have hNd : N ≤ (w4.alloc (.cells #[.int .i64 (l[k]'hlt)] 3)).drew.heap.size := by simp; omega
                    have hfin := fun b6 c6 => (show (∀ q h, q < k + 1 → (hs.set k ⟨some ⟨b6, 0, none⟩, c6, hr.take m ++ [l[k]'hlt] ++ hr.drop m⟩)[q]? = some h → h.l ≠ []) ∧ (∀ h ∈ hs.set k ⟨some ⟨b6, 0, none⟩, c6, hr.take m ++ [l[k]'hlt] ++ hr.drop m⟩, h.l.length ≤ k + 1) from by
                      refine ⟨fun q h hq hh => ?_, fun h hh => ?_⟩
                      · rw [List.getElem?_set] at hh
                        split at hh
                        · split at hh
                          · cases hh; simp
                          · cases hh
                        · rcases Nat.lt_or_ge q k with h1 | h1
                          · exact Hne.out q h h1 hh
                          · exfalso
                            have : q < hs.length := (List.getElem?_eq_some_iff.1 hh).1
                            have := Hsl.out
                            omega
                      · rcases List.mem_or_eq_of_mem_set hh with hh | rfl
                        · have := Hle.out h hh; omega
                        · simp; omega)
                    have Hfin := Lib.hid hfin
                    have hnext := fun (v5 : Value) (w5 : World) (v6 : Value) (w6 : World) (hg5 : (w4.alloc (.cells #[.int .i64 (l[k]'hlt)] 3)).drew.grownBy w5 (Value.slice (some ⟨b, 0, none⟩) m hcap).ownBlock) (hk5 : v5.ownBlock = (Value.slice (some ⟨b, 0, none⟩) m hcap).ownBlock ∨ v5.ownBlock = some (w4.alloc (.cells #[.int .i64 (l[k]'hlt)] 3)).drew.heap.size)
                      (ho6 : w6.ownsRow N 3 1 v6 (m + 1 + (hr.length - m)) (intCells (hr.take m) ++ intCells [l[k]'hlt] ++ intCells (hr.drop m))) (hg6 : w5.grownBy w6 v5.ownBlock) (hk6 : v6.ownBlock = v5.ownBlock ∨ v6.ownBlock = some w5.heap.size) =>
                      (show w6.cell? ⟨G, k, none⟩ = some (.slice (some ⟨b, 0, none⟩) hr.length hcap) ∧ w6.frozen? ⟨G, k, none⟩ = false ∧ ∃ b6 c6, v6 = .slice (some ⟨b6, 0, none⟩) (hr.length + 1) c6 ∧ Polys w N g (w6.setCell ⟨G, k, none⟩ v6) (.slice (some ⟨B, 0, none⟩) l.length cv) l (.slice (some ⟨G, 0, none⟩) i cg) (hs.set k ⟨some ⟨b6, 0, none⟩, c6, hr.take m ++ [l[k]'hlt] ++ hr.drop m⟩) by
                      have hsz5 : w4.heap.size ≤ w5.heap.size := by have := hg5.size; simp at this; omega
                      have h6 : ∀ q, v5.ownBlock = some q → q = b ∨ w4.heap.size ≤ q := fun q hq => by
                        rcases hk5 with e | e
                        · rw [e] at hq; exact Or.inl (own_block hq)
                        · rw [e] at hq; right; have := Option.some.inj hq; simp at this; omega
                      have hG := insert_grown hg5 (fun q hq => own_block hq) hg6 h6
                      obtain ⟨hc6, hf6⟩ := HGc.out w6 hG
                      refine ⟨hc6, hf6, Hins.out v6 w6 hG ?_ ?_⟩
                      · rw [show m + 1 + (hr.length - m) = hr.length + 1 from by omega] at ho6
                        rw [show intCells (hr.take m ++ [l[k]'hlt] ++ hr.drop m) = intCells (hr.take m) ++ intCells [l[k]'hlt] ++ intCells (hr.drop m) from by simp [intCells]]
                        exact ho6
                      · rcases hk6 with e | e
                        · cases hq : v5.ownBlock with
                          | none =>
                            exfalso
                            obtain ⟨g9, c9, e9, _, _⟩ := own_form ho6 (by omega)
                            rw [e9, hq] at e; cases e
                          | some q =>
                            rcases h6 q hq with h | h
                            · left; rw [e, hq, h]
                            · exact Or.inr ⟨q, by rw [e, hq], h⟩
                        · exact Or.inr ⟨_, e, hsz5⟩)
                    have Hnext := Lib.hid hnext
                    generalize hX : l[k]'hlt = X at *
                    clear hX hnext hown4 htake hGc hins hfin hg4 hcell3 hcell4 hA
                    go_wp2
                    go_region_law (first
                      | (refine step_append_rowN rfl (.tmp 95) (.tmp 100) 36 rfl N 3 i0 _ 8 Tryd.underlying36 Hi0.out Hz0.out Hz1.out Hz2.out (by rfl) _ m _ (by rfl) Htake.out _ 1 _ (intCells [X]) (by rfl) HRX.out (by rfl) (intCells_one _) hm3 hm4 hNd ?_; intro v5 w5 hown5 hg5 hk5; obtain ⟨hr5, hN5⟩ := Hrest2.out w5 hg5; obtain ⟨av5, cv5, rfl⟩ := own_len hown5)
                      | (refine step_append_rowN rfl (.tmp 101) (.tmp 102) 36 rfl N 3 i0 _ 8 Tryd.underlying36 Hi0.out Hz0.out Hz1.out Hz2.out (by rfl) _ (m + 1) _ (by rfl) hown5 _ (hr.length - m) _ (intCells (hr.drop m)) (by rfl) hr5 (by rw [intCells_len, List.length_drop]) (intCells_one _) hm5 hm6 hN5 ?_; intro v6 w6 hown6 hg6 hk6; obtain ⟨hc6, hf6, b6, c6, rfl, hP6⟩ := Hnext.out _ w5 v6 w6 hg5 hk5 hown6 hg6 hk6; have HP6 := Lib.hid hP6; clear hown5 hg5 hk5 hr5 hown6 hg6 hk6 hP6))
                    all_goals
                      go_wp2
                      go_roundw
                      case rel => exact ⟨k + 1, _, by go_num, by omega, by rw [List.length_set]; exact Hsl.out, Lib.hid ⟨(Hfin.out b6 c6).1, (Hfin.out b6 c6).2, HP6.out⟩⟩
                      case measure => simp [intOf] <;> omega
                  · have dk : decide ((k : Int) < (i : Int)) = false := decide_eq_false (by omega)
                    have dk' : decide (k < i) = false := decide_eq_false hki
                    obtain ⟨p, rfl⟩ : ∃ p : Nat, x = (p : Int) := ⟨x.toNat, by omega⟩
                    have hpi : p < i := by omega
                    obtain ⟨h, hp⟩ := get_some (l := hs) (i := p) (by have := Hsl.out; omega)
                    have hcell := HR2.out.cell Hsl.out hp
                    obtain ⟨hown, hT, b, hb⟩ := HR2.out.inner h (get_mem hp)
                    obtain ⟨ha, hcap, hr⟩ := h
                    simp only at hb hown hcell hT
                    subst hb
                    have hp0 : (0 : Int) ≤ (p : Int) := by omega
                    have hp1 : (p : Int) < (i : Int) := by omega
                    have hrk : hr.length ≤ k := by have := Hle.out _ (get_mem hp); simpa using this
                    have hr9 : hr.length ≤ 13 := by omega
                    have Hp := Lib.hid hp; have HT := Lib.hid hT
                    clear hp hown hT
                    go_wp2_with fail
                    refine (l1Below g ((hr.length : Int) + 1) w2 HR2.out.cur (by omega) (by omega)).mono ?_
                    rintro e w3 ⟨⟨m0, rfl, hm0, hm1⟩, hc3, hg3⟩
                    obtain ⟨m, rfl⟩ : ∃ m : Nat, m0 = (m : Int) := ⟨m0.toNat, by omega⟩
                    have hml : m ≤ hr.length := by omega
                    have HR3 := Lib.hid (HR2.out.draw hgl hc3 hg3)
                    have hown3 := (HR3.out.inner _ (get_mem Hp.out)).1
                    simp only [Hd.val] at hown3
                    obtain ⟨hc0, hcm⟩ := own_cap hown3
                    have hcell3 := HR3.out.cell Hsl.out Hp.out
                    simp only at hcell3
                    have hmc : m ≤ hcap := by omega
                    have hbase : w3.heap.size ≤ (w3.alloc (.cells #[] 3)).heap.size := by simp
                    have Hmade := Lib.hid (own_made (w := w3) rfl)
                    have Hdl : Hid ((intCells (hr.drop m)).length = hr.length - m) := Lib.hid (by rw [intCells_len, List.length_drop])
                    have hq1 : 0 + (hr.length - m) ≤ maxLen := by unfold maxLen; omega
                    have hq2 : (0 + (hr.length - m)) * 8 ≤ 140737488355328 := by omega
                    have hrow3 := own_rowat hown3
                    have hcell4 : (w3.alloc (.cells #[] 3)).cell? ⟨G, p, none⟩ = some (.slice (some ⟨b, 0, none⟩) hr.length hcap) := by
                      rw [((Below.refl w3.heap.size w3).alloc (Nat.le_refl _) (.cells #[] 3)).cell (p := ⟨G, p, none⟩) (HR3.out.outer.lt G rfl).2]; exact hcell3
                    obtain ⟨A, hA⟩ : ∃ A, (if hcap = m then some (⟨b, 0, none⟩ : Addr) else some ⟨b, m, none⟩) = A := ⟨_, rfl⟩
                    have Hdrop : Hid (RowAt (w3.alloc (.cells #[] 3)) A (intCells (hr.drop m))) := Lib.hid (by
                      rw [← hA]
                      split
                      · rename_i e; exact Or.inl (by rw [List.drop_eq_nil_of_le (by omega)]; rfl)
                      · exact row_dropped (hrow3.below ((Below.refl _ _).alloc (Nat.le_refl _) _)))
                    clear HR2 hc3 hg3 hcell hown3 hm0 hm1 hrow3
                    go_wp2_with (at_builtin; refine append_row rfl (.tmp 80) (.tmp 86) 36 rfl w3.heap.size 3 i0 _ 8 Tryd.underlying36 Hi0.out Hz0.out Hz1.out Hz2.out (by rfl) _ 0 (intCells []) rfl Hmade.out _ (hr.length - m) _ (intCells (hr.drop m)) rfl Hdrop.out Hdl.out (intCells_one _) hq1 hq2 hbase ?_; intro v4 w4 hown4 hg4; obtain ⟨av4, cv4, rfl⟩ := own_len hown4)
                    have HR4 := Lib.hid (HR3.out.aside HN.out rfl hg4)
                    have hNw3 : N ≤ w3.heap.size := by have := HR3.out.gro.size; have := HN.out; omega
                    rw [Nat.zero_add, show intCells [] ++ intCells (hr.drop m) = intCells (hr.drop m) from rfl] at hown4
                    have hNw4 : N ≤ w4.heap.size := by have := HR4.out.gro.size; have := HN.out; omega
                    have hcell5 := HR4.out.cell Hsl.out Hp.out
                    simp only at hcell5
                    have hside5 : w4.cell? ⟨B, k, none⟩ = some (.int .i64 (l[k]'hlt)) := own_cell HR4.out.sides hlt rfl
                    have hcell6 : ∀ o : Obj, (w4.alloc o).cell? ⟨G, p, none⟩ = some (.slice (some ⟨b, 0, none⟩) hr.length hcap) := fun o => by
                      rw [((Below.refl w4.heap.size w4).alloc (Nat.le_refl _) o).cell (p := ⟨G, p, none⟩) (HR4.out.outer.lt G rfl).2]; exact hcell5
                    have hk0 : (0 : Int) ≤ (k : Int) := by omega
                    have hk1 : (k : Int) < (l.length : Int) := by omega
                    have hX9 := HR4.out.tiny (l[k]'hlt) (List.getElem_mem hlt)
                    have htake := own_take (HR4.out.inner _ (get_mem Hp.out)).1 hml
                    rw [intCells_take] at htake
                    have Htake : Hid ((w4.alloc (.cells #[.int .i64 (l[k]'hlt)] 3)).drew.ownsRow N 3 1 (.slice (some ⟨b, 0, none⟩) m hcap) m (intCells (hr.take m))) := Lib.hid (own_drewN (htake.alloc _) 1)
                    have HRX : Hid (RowAt (w4.alloc (.cells #[.int .i64 (l[k]'hlt)] 3)).drew (some ⟨w4.heap.size, 0, none⟩) (intCells [l[k]'hlt])) := Lib.hid ((Blk.new w4 3 #[.int .i64 (l[k]'hlt)]).drew.row)
                    have Hrest : Hid ((w4.alloc (.cells #[.int .i64 (l[k]'hlt)] 3)).drew.ownsRow w3.heap.size 3 1 (.slice av4 (hr.length - m) cv4) (hr.length - m) (intCells (hr.drop m))) := Lib.hid (own_drewN (hown4.alloc _) 1)
                    have hbs : b < w3.heap.size := ((HR3.out.inner _ (get_mem Hp.out)).1.lt b rfl).2
                    have Hrest2 : Hid (∀ w5, (w4.alloc (.cells #[.int .i64 (l[k]'hlt)] 3)).drew.grownBy w5 (Value.slice (some ⟨b, 0, none⟩) m hcap).ownBlock → RowAt w5 av4 (intCells (hr.drop m)) ∧ N ≤ w5.heap.size) := Lib.hid (fun w5 hg => by
                      have h5 := own_grown2 Hrest.out hg (fun k hk e => by have := (Hrest.out.lt k hk).1; have := own_block e; omega)
                      obtain ⟨a', c', e', hr'⟩ := own_row h5 (by rw [intCells_len, List.length_drop])
                      cases e'
                      refine ⟨hr', ?_⟩
                      have := hg.size
                      simp at this
                      omega)
                    have hbs4 : b < w4.heap.size := ((HR4.out.inner _ (get_mem Hp.out)).1.lt b rfl).2
                    have hGc : ∀ w6, w4.grownBy w6 (some b) → w6.cell? ⟨G, p, none⟩ = some (.slice (some ⟨b, 0, none⟩) hr.length hcap) ∧ w6.frozen? ⟨G, p, none⟩ = false := fun w6 hG => by
                      have ho6 := kept_type HR4.out.outer (HR4.out.inner _ (get_mem Hp.out)).1 (by decide) hG
                      rw [Hsl.out] at ho6
                      refine ⟨?_, ho6.frozenAt _⟩
                      have hpl := (List.getElem?_eq_some_iff.1 Hp.out)
                      obtain ⟨h1, h2⟩ := hpl
                      rw [ho6.cellAt p (by have := Hsl.out; omega), hdCells_get h1, h2]; rfl
                    have HGc := Lib.hid hGc
                    have hins := fun (v6 : Value) (w6 : World) (hG : w4.grownBy w6 (some b)) (ho : w6.ownsRow N 3 1 v6 (hr.length + 1) (intCells (hr.take m ++ [l[k]'hlt] ++ hr.drop m))) (hb6 : v6.ownBlock = some b ∨ ∃ k, v6.ownBlock = some k ∧ w4.heap.size ≤ k) => (show ∃ b6 c6, v6 = .slice (some ⟨b6, 0, none⟩) (hr.length + 1) c6 ∧ Polys w N g (w6.setCell ⟨G, p, none⟩ v6) (.slice (some ⟨B, 0, none⟩) l.length cv) l (.slice (some ⟨G, 0, none⟩) i cg) (hs.set p ⟨some ⟨b6, 0, none⟩, c6, hr.take m ++ [l[k]'hlt] ++ hr.drop m⟩) by
                      obtain ⟨b6, c6, rfl, _, _⟩ := own_form ho (by omega)
                      refine ⟨b6, c6, rfl, ?_⟩
                      have h4 := HR4.out
                      have e := Hsl.out
                      rw [← e] at h4 ⊢
                      refine h4.insert HN.out hgl Hp.out hG ho ?_ ?_ ?_
                      · simp; omega
                      · intro y hy
                        rcases List.mem_append.1 hy with hy | hy
                        · rcases List.mem_append.1 hy with hy | hy
                          · exact HT.out y (List.mem_of_mem_take hy)
                          · rw [List.mem_singleton.1 hy]; exact hX9
                        · exact HT.out y (List.mem_of_mem_drop hy)
                      · rcases hb6 with hb6 | ⟨k6, hk6, hk7⟩
                        · exact Or.inl (own_block hb6).symm
                        · exact Or.inr (by have := own_block hk6; omega))
                    have Hins := Lib.hid hins
                    have hm3 : m + 1 ≤ maxLen := by unfold maxLen; omega
                    have hm4 : (m + 1) * 8 ≤ 140737488355328 := by omega
                    have hm5 : m + 1 + (hr.length - m) ≤ maxLen := by unfold maxLen; omega
                    have hm6 : (m + 1 + (hr.length - m)) * 8 ≤ 140737488355328 := by omega
                    have hNd : N ≤ (w4.alloc (.cells #[.int .i64 (l[k]'hlt)] 3)).drew.heap.size := by simp; omega
                    have hfin := fun b6 c6 => (show (∀ q h, q < k + 1 → (hs.set p ⟨some ⟨b6, 0, none⟩, c6, hr.take m ++ [l[k]'hlt] ++ hr.drop m⟩)[q]? = some h → h.l ≠ []) ∧ (∀ h ∈ hs.set p ⟨some ⟨b6, 0, none⟩, c6, hr.take m ++ [l[k]'hlt] ++ hr.drop m⟩, h.l.length ≤ k + 1) from by
                      refine ⟨fun q h hq hh => ?_, fun h hh => ?_⟩
                      · rw [List.getElem?_set] at hh
                        split at hh
                        · split at hh
                          · cases hh; simp
                          · cases hh
                        · rcases Nat.lt_or_ge q k with h1 | h1
                          · exact Hne.out q h h1 hh
                          · exfalso
                            have : q < hs.length := (List.getElem?_eq_some_iff.1 hh).1
                            have := Hsl.out
                            omega
                      · rcases List.mem_or_eq_of_mem_set hh with hh | rfl
                        · have := Hle.out h hh; omega
                        · simp; omega)
                    have Hfin := Lib.hid hfin
                    have hnext := fun (v5 : Value) (w5 : World) (v6 : Value) (w6 : World) (hg5 : (w4.alloc (.cells #[.int .i64 (l[k]'hlt)] 3)).drew.grownBy w5 (Value.slice (some ⟨b, 0, none⟩) m hcap).ownBlock) (hk5 : v5.ownBlock = (Value.slice (some ⟨b, 0, none⟩) m hcap).ownBlock ∨ v5.ownBlock = some (w4.alloc (.cells #[.int .i64 (l[k]'hlt)] 3)).drew.heap.size)
                      (ho6 : w6.ownsRow N 3 1 v6 (m + 1 + (hr.length - m)) (intCells (hr.take m) ++ intCells [l[k]'hlt] ++ intCells (hr.drop m))) (hg6 : w5.grownBy w6 v5.ownBlock) (hk6 : v6.ownBlock = v5.ownBlock ∨ v6.ownBlock = some w5.heap.size) =>
                      (show w6.cell? ⟨G, p, none⟩ = some (.slice (some ⟨b, 0, none⟩) hr.length hcap) ∧ w6.frozen? ⟨G, p, none⟩ = false ∧ ∃ b6 c6, v6 = .slice (some ⟨b6, 0, none⟩) (hr.length + 1) c6 ∧ Polys w N g (w6.setCell ⟨G, p, none⟩ v6) (.slice (some ⟨B, 0, none⟩) l.length cv) l (.slice (some ⟨G, 0, none⟩) i cg) (hs.set p ⟨some ⟨b6, 0, none⟩, c6, hr.take m ++ [l[k]'hlt] ++ hr.drop m⟩) by
                      have hsz5 : w4.heap.size ≤ w5.heap.size := by have := hg5.size; simp at this; omega
                      have h6 : ∀ q, v5.ownBlock = some q → q = b ∨ w4.heap.size ≤ q := fun q hq => by
                        rcases hk5 with e | e
                        · rw [e] at hq; exact Or.inl (own_block hq)
                        · rw [e] at hq; right; have := Option.some.inj hq; simp at this; omega
                      have hG := insert_grown hg5 (fun q hq => own_block hq) hg6 h6
                      obtain ⟨hc6, hf6⟩ := HGc.out w6 hG
                      refine ⟨hc6, hf6, Hins.out v6 w6 hG ?_ ?_⟩
                      · rw [show m + 1 + (hr.length - m) = hr.length + 1 from by omega] at ho6
                        rw [show intCells (hr.take m ++ [l[k]'hlt] ++ hr.drop m) = intCells (hr.take m) ++ intCells [l[k]'hlt] ++ intCells (hr.drop m) from by simp [intCells]]
                        exact ho6
                      · rcases hk6 with e | e
                        · cases hq : v5.ownBlock with
                          | none =>
                            exfalso
                            obtain ⟨g9, c9, e9, _, _⟩ := own_form ho6 (by omega)
                            rw [e9, hq] at e; cases e
                          | some q =>
                            rcases h6 q hq with h | h
                            · left; rw [e, hq, h]
                            · exact Or.inr ⟨q, by rw [e, hq], h⟩
                        · exact Or.inr ⟨_, e, hsz5⟩)
                    have Hnext := Lib.hid hnext
                    generalize hX : l[k]'hlt = X at *
                    clear hX hnext hown4 htake hGc hins hfin hg4 hcell3 hcell4 hA
                    go_wp2
                    go_region_law (first
                      | (refine step_append_rowN rfl (.tmp 95) (.tmp 100) 36 rfl N 3 i0 _ 8 Tryd.underlying36 Hi0.out Hz0.out Hz1.out Hz2.out (by rfl) _ m _ (by rfl) Htake.out _ 1 _ (intCells [X]) (by rfl) HRX.out (by rfl) (intCells_one _) hm3 hm4 hNd ?_; intro v5 w5 hown5 hg5 hk5; obtain ⟨hr5, hN5⟩ := Hrest2.out w5 hg5; obtain ⟨av5, cv5, rfl⟩ := own_len hown5)
                      | (refine step_append_rowN rfl (.tmp 101) (.tmp 102) 36 rfl N 3 i0 _ 8 Tryd.underlying36 Hi0.out Hz0.out Hz1.out Hz2.out (by rfl) _ (m + 1) _ (by rfl) hown5 _ (hr.length - m) _ (intCells (hr.drop m)) (by rfl) hr5 (by rw [intCells_len, List.length_drop]) (intCells_one _) hm5 hm6 hN5 ?_; intro v6 w6 hown6 hg6 hk6; obtain ⟨hc6, hf6, b6, c6, rfl, hP6⟩ := Hnext.out _ w5 v6 w6 hg5 hk5 hown6 hg6 hk6; have HP6 := Lib.hid hP6; clear hown5 hg5 hk5 hr5 hown6 hg6 hk6 hP6))
                    all_goals
                      go_wp2
                      go_roundw
                      case rel => exact ⟨k + 1, _, by go_num, by omega, by rw [List.length_set]; exact Hsl.out, Lib.hid ⟨(Hfin.out b6 c6).1, (Hfin.out b6 c6).2, HP6.out⟩⟩
                      case measure => simp [intOf] <;> omega
                · have dl : decide ((k : Int) < (l.length : Int)) = false := decide_eq_false (by omega)
                  have dl' : decide (k < l.length) = false := decide_eq_false hlt
                  go_wp2
                  go_ret
                  have hkl2 : k = l.length := by omega
                  refine ⟨G, cg, hs, _, l, by rw [Hsl.out]; rfl, by rw [Hsl.out, HN.out]; exact HR.out, by rw [Hsl.out]; omega, by rw [Hsl.out]; omega, fun h hh => ?_⟩
                  obtain ⟨q, hq, rfl⟩ := List.mem_iff_getElem.1 hh
                  have := Hsl.out
                  exact ⟨Hne.out q _ (by omega) (List.getElem?_eq_getElem hq), by have := Hle.out _ hh; omega⟩
end Go.Proofs.YtpgdmbolckogcaaDoor
namespace Go.Proofs.YtpgdmbolckogcaaDoor
open Go.RowKit

theorem sumLen_bound {L : List (List Int)} {k : Nat} (h : ∀ r ∈ L, r.length ≤ k) : sumLen L ≤ k * L.length := by
  induction L with
  | nil => simp [sumLen]
  | cons r t ih =>
    have h1 := h r (List.mem_cons_self ..)
    have h2 := ih (fun x hx => h x (List.mem_cons_of_mem _ hx))
    unfold sumLen at h2 ⊢
    simp only [List.map_cons, List.sum_cons, List.length_cons, Nat.mul_add]
    omega
theorem glue_said_len (L : List (List Int)) : (Glue.said L).size ≤ sumLen L + L.length := by
  unfold Glue.said
  split
  · show (Lib.join (Join.texts (Glue.texts L)) [32]).toArray.size ≤ _
    rw [List.size_toArray]
    refine Nat.le_trans (Join.join_len _ _) ?_
    rw [Join.texts_sum, Glue.texts_total]
    simp [Join.texts, Glue.texts]
  · show (0 : Nat) ≤ _
    omega
theorem Polys.gridAt {w : World} {N g G n cg : Nat} {wr : World} {sv : Value} {l : List Int} {hs : List Hd} (R : Polys w N g wr sv l (.slice (some ⟨G, 0, none⟩) n cg) hs) : GridAt wr (some ⟨G, 0, none⟩) (hs.map Hd.l) := by
  have ho := R.outer
  obtain ⟨a, c, e, hr⟩ := own_row ho (by rw [hdCells_len])
  cases e
  refine ⟨hs, rfl, hr, fun h hh => ?_⟩
  obtain ⟨h1, _, b, hb⟩ := R.inner h hh
  obtain ⟨a', c', e', hr'⟩ := own_row h1 (intCells_len _)
  unfold Hd.val at e'
  cases e'; exact hr'
/-- A text that was drawn. -/
def DrawnT (w : World) (e : Ending) (w' : World) : Prop := ∃ t : ByteArray, e = .returned (.string t) ∧ t.size ≤ 3000 ∧ Below w.heap.size w w'
set_option maxRecDepth 100000 in
set_option maxHeartbeats 2000000 in
theorem drawParseGluing (a : Option Addr) (c : Nat) (l : List Int) (w : World) (ha : RowAt w a (byteCells l)) (hb : ∀ x ∈ l, 0 ≤ x ∧ x ≤ 255) (hsz : l.length ≤ 1048576) :
    Calls Tryd.prog 17 #[.slice a l.length c] w (DrawnT w) := by
  go_enter Tryd.func17, Tryd.ntmps17
  go_wp2_with fail
  refine (l1New a c l w ha hb hsz).mono ?_
  rintro e w1 ⟨g, rfl, hg, hc1, hb1⟩
  go_wp2_with fail
  refine (l3Draw g w1 hc1).mono ?_
  rintro e w2 ⟨G, cG, hs, sv, sl, rfl, R, hn1, hn2, hlen⟩
  have hgrid := R.gridAt
  have hg2 := R.gro
  have hc2 := R.cur
  have hsum : sumLen (hs.map Hd.l) ≤ 13 * hs.length := by
    have := sumLen_bound (L := hs.map Hd.l) (k := 13) (fun r hr => by obtain ⟨h, hh, rfl⟩ := List.mem_map.1 hr; exact (hlen h hh).2)
    rwa [List.length_map] at this
  have hsl := glue_said_len (hs.map Hd.l)
  have htot : tot (hs.map Hd.l) ≤ 1048576 := by unfold tot; rw [List.length_map]; omega
  rw [List.length_map] at hsl
  have hcall := spec_GluingText (some ⟨G, 0, none⟩) cG (hs.map Hd.l) w2 hgrid htot
  rw [List.length_map] at hcall
  have Hcall := Lib.hid hcall
  clear R hgrid hcall hlen htot
  go_wp2_with fail
  refine Hcall.out.mono ?_
  rintro e w3 ⟨rfl, hb3⟩
  have hts : (Glue.said (hs.map Hd.l)).size ≤ 1000 := by omega
  generalize Glue.said (hs.map Hd.l) = t at *
  have hc3 := hc2.below hb3
  have hgt := hc3.lt
  go_wp2_with fail
  refine (l1Turned_text g w3.heap.size 5 t [⟨#[32]⟩, ⟨#[97]⟩, ⟨#[65]⟩, ⟨#[45]⟩, ⟨#[120]⟩] _ (hc3.alloc _) (Blk.new _ _ _) (by omega) (by decide) (by decide) hts (by decide +kernel)).mono ?_
  rintro e w4 ⟨t', rfl, ht', hc4, hg4⟩
  have hb2 := below_of_only hb1 hg2 hg
  have hb3' := hb2.trans (hb3.mono hb2.size)
  go_wp2
  go_ret
  exact ⟨t', rfl, ht', below_of_only hb3' ((World.grownBy_alloc _ _ _).trans hg4) hg⟩
end Go.Proofs.YtpgdmbolckogcaaDoor
namespace Go.Proofs.YtpgdmbolckogcaaDoor
open Go

section
variable {P : Program} {ops : Array Oper} {Q : Exit → Act → World → Prop} {md : Region.Mode} {S : World → Prop}

/-- f operations, all of them among the first n, come up in whatever order; S behind each; then L. -/
def HdAny (P : Program) (md : Region.Mode) (ops : Array Oper) (Q : Exit → Act → World → Prop) (S : World → Prop) (n : Nat) (L : Array Bool → Act → World → Prop) : Nat → Array Bool → Act → World → Prop
  | 0, listed, a, w => L listed a w
  | f + 1, listed, a, w => Region.ready md ops listed ≠ [] ∧ ∀ i ∈ Region.ready md ops listed, i < n ∧ wpOp P ops Q i (fun a' w' => S w' ∧ HdAny P md ops Q S n L f (listed.setIfInBounds i true) a' w') a w

theorem HdAny.any {n g : Nat} {L : Array Bool → Act → World → Prop} (hL : ∀ listed a w, L listed a w → wpAny P md ops Q g listed a w) :
    ∀ (f : Nat) (listed : Array Bool) (a : Act) (w : World), HdAny P md ops Q S n L f listed a w → wpAny P md ops Q (f + g) listed a w
  | 0, _, _, _, h => by rw [Nat.zero_add]; exact hL _ _ _ h
  | f + 1, listed, a, w, h => by
    have e : f + 1 + g = (f + g) + 1 := by omega
    rw [e]
    exact ⟨fun h0 => (h.1 h0).elim, fun i hi => wpOp_mono (fun a' w' k => HdAny.any hL f _ a' w' k.2) (h.2 i hi).2⟩

/-- Operation n waits for i, by way of others. -/
def reachB (md : Region.Mode) (ops : Array Oper) (n : Nat) : Nat → Nat → Bool
  | 0, _ => false
  | f + 1, i => (List.range (n + 1)).any fun j => Region.waitsFor md ops j i && (j == n || reachB md ops n f j)

/-- So nothing from n on comes up ahead of i. -/
theorem reach_waits {n : Nat} (hc : Region.chainB md ops n = true) {listed : Array Bool} (inv : HeadInv md ops n listed) :
    ∀ (f i : Nat), reachB md ops n f i = true → listed.getD i true = false → ∀ t, n ≤ t → t ∉ Region.ready md ops listed
  | 0, _, h, _, _, _ => by cases h
  | f + 1, i, h, hun, t, ht => fun hr => by
    obtain ⟨_, ot, hot, hall⟩ := mem_ready.1 hr
    have hts : t < ops.size := (Array.getElem?_eq_some_iff.1 hot).1
    by_cases htn : t = n
    · subst htn
      obtain ⟨j, hj, hj2⟩ := List.any_eq_true.1 h
      have hjt := List.mem_range.1 hj
      simp only [Bool.and_eq_true, Bool.or_eq_true, beq_iff_eq] at hj2
      obtain ⟨oj, hoj, e, he, hb, hon⟩ := Region.waitsFor_spec hj2.1
      by_cases hjn : j = t
      · subst hjn
        cases hoj.symm.trans hot
        have h2 := hall e he hb
        rw [hon, getD_both hun] at h2
        cases h2
      · rcases hj2.2 with q | q
        · exact hjn q
        · cases hl : listed.getD j false with
          | true =>
            have h2 := inv.closed j oj hoj hl e he hb
            rw [hon, getD_both hun] at h2
            cases h2
          | false => exact reach_waits hc inv f j q (getD_in (by rw [inv.size]; omega) hl) t (Nat.le_refl _) hr
    · have h1 := List.all_eq_true.1 hc t (List.mem_range.2 hts)
      simp only [Bool.or_eq_true, decide_eq_true_eq] at h1
      rcases h1 with q | q
      · omega
      · obtain ⟨o', ho', e, he, hb, hon⟩ := Region.waitsFor_spec q
        cases ho'.symm.trans hot
        have h2 := hall e he hb
        rw [hon, getD_both (inv.tail (t - 1) (by omega) (by omega))] at h2
        cases h2

/-- One that yields the same in every world that meets S is taken first. -/
theorem HdAny.first {n i : Nat} {oi : Oper} {v : Value} {L : Array Bool → Act → World → Prop} (hi : ops[i]? = some oi) (hsel : Region.noSelect ops = true)
    (hQ : ∀ c a w, Q (.panic c) (a.put oi.dst v) w → Q (.panic c) a w)
    {q : Nat} (hs : reachB md ops n q i = true) (hc : Region.chainB md ops n = true)
    (hdone : ∀ listed a w, L listed a w → ∀ j ∈ Region.ready md ops listed, n ≤ j) :
    ∀ (f : Nat) (listed : Array Bool) (a : Act) (w : World), HeadInv md ops n listed →
      (∀ j oj, ops[j]? = some oj → j ≠ i → listed.getD j true = false → (∀ e ∈ oj.after, Region.binds md e = true → e.on ≠ i) → oi.apart ops oj = true) →
      i ∈ Region.ready md ops listed → YieldsIf P ops S oi v a → S w →
      HdAny P md ops Q S n L f (listed.setIfInBounds i true) (a.put oi.dst v) w → HdAny P md ops Q S n L (f + 1) listed a w := by
  have hno := Region.noSelect_spec hsel
  intro f
  induction f with
  | zero =>
    intro listed a w inv _ hr hy hS H
    have hun := (mem_ready.1 hr).1
    refine ⟨List.ne_nil_of_mem hr, fun j hj => ⟨?_, ?_⟩⟩
    · exact Nat.lt_of_not_le fun h => reach_waits hc inv q i hs hun j h hj
    · by_cases hji : j = i
      · subst hji; exact hy.wpOp hi hS ⟨hS, H⟩
      · have h1 := hdone _ _ _ H j (ready_mono hj hji)
        exact (reach_waits hc inv q i hs hun j h1 hj).elim
  | succ f ih =>
    intro listed a w inv hfree hr hy hS H
    have hun := (mem_ready.1 hr).1
    refine ⟨List.ne_nil_of_mem hr, fun j hj => ?_⟩
    have hjn : j < n := Nat.lt_of_not_le fun h => reach_waits hc inv q i hs hun j h hj
    refine ⟨hjn, ?_⟩
    by_cases hji : j = i
    · subst hji; exact hy.wpOp hi hS ⟨hS, H⟩
    · obtain ⟨hjun, oj, hoj, hall⟩ := mem_ready.1 hj
      have hnot : ∀ e ∈ oj.after, Region.binds md e = true → e.on ≠ i := fun e he hb heq => by
        have h1 := hall e he hb
        rw [heq, getD_both hun] at h1
        cases h1
      refine wpOp_mono (fun a' w' k => ⟨k.2.1, ih _ a' w' (inv.set hj hjn) (fun k' ok hk hki huk hok => ?_) (ready_mono hr (Ne.symm hji)) k.1 k.2.1 ?_⟩)
        (wpOp_putIf hoj (hfree j oj hoj hji hjun hnot) (fun cs b => hno i oi cs b hi) (fun cs b => hno j oj cs b hoj) hQ hy (H.2 j (ready_mono hj hji)).2)
      · refine hfree k' ok hk hki ?_ hok
        by_cases hjk : j = k'
        · subst hjk; exact hjun
        · rw [getD_set_ne true hjk] at huk; exact huk
      · rw [Array.setIfInBounds_comm _ _ hji]
        exact k.2.2

/-- What 'HeadInv' asks, as a Bool. -/
def headB (md : Region.Mode) (ops : Array Oper) (n : Nat) (listed : Array Bool) : Bool :=
  (listed.size == ops.size) && ((List.range ops.size).all fun j => !listed.getD j false || ((ops[j]?).map fun o => o.after.all fun e => !Region.binds md e || listed.getD e.on false).getD true) && ((List.range ops.size).all fun t => decide (t < n) || !listed.getD t true)

theorem headB_spec {n : Nat} {listed : Array Bool} (h : headB md ops n listed = true) : HeadInv md ops n listed := by
  simp only [headB, Bool.and_eq_true, beq_iff_eq, List.all_eq_true, List.mem_range, Bool.or_eq_true, Bool.not_eq_true', decide_eq_true_eq] at h
  obtain ⟨⟨h1, h2⟩, h3⟩ := h
  refine ⟨h1, fun j oj hj hl e he hb => ?_, fun t ht hts => ?_⟩
  · have hjs : j < ops.size := (Array.getElem?_eq_some_iff.1 hj).1
    rcases h2 j hjs with q | q
    · rw [hl] at q; cases q
    · rw [hj, Option.map_some, Option.getD_some] at q
      have h5 := Array.all_eq_true_iff_forall_mem.1 q e he
      simp only [hb, Bool.not_true, Bool.false_or] at h5
      exact h5
  · rcases h3 t hts with q | q
    · omega
    · exact q

/-- What is asked behind the head: the others are left, in their own order. -/
def Tail (P : Program) (md : Region.Mode) (ops : Array Oper) (Q : Exit → Act → World → Prop) (n g : Nat) (l : List Oper) (listed : Array Bool) (a : Act) (w : World) : Prop :=
  Region.seqB md ops g n listed = true ∧ wpList P ops Q l a w

theorem at_drop {l r : List Oper} {i : Nat} {o : Oper} (h : l.drop i = o :: r) : l.toArray[i]? = some o := by
  rw [List.getElem?_toArray]
  have h1 : (l.drop i)[0]? = some o := by rw [h]; rfl
  rw [List.getElem?_drop] at h1
  simpa using h1
/-- What a take asks of the region's edges. -/
def takeB (md : Region.Mode) (ops : Array Oper) (n i : Nat) (listed : Array Bool) : Bool :=
  Region.noSelect ops && reachB md ops n n i && Region.chainB md ops n && headB md ops n listed && Region.free md ops listed i && (Region.ready md ops listed).contains i
/-- Take number i first. -/
theorem HdAny.take {n g i : Nat} {l0 r : List Oper} {oi : Oper} {v : Value} {l : List Oper} {f : Nat} {listed : Array Bool} {a : Act} {w : World} (hd : l0.drop i = oi :: r)
    (hb : takeB md l0.toArray n i listed = true)
    (hQ : ∀ c a w, Q (.panic c) (a.put oi.dst v) w → Q (.panic c) a w) (hw : Region.wanted oi (yielded l0.toArray a.tmps) = true) (hy : ∀ w, S w → (execOp a.eval oi).run P w = .ok (.value v) w) (hS : S w)
    (h : HdAny P md l0.toArray Q S n (Tail P md l0.toArray Q n g l) f (listed.setIfInBounds i true) (a.put oi.dst v) w) : HdAny P md l0.toArray Q S n (Tail P md l0.toArray Q n g l) (f + 1) listed a w := by
  have hi := at_drop hd
  have hy : YieldsIf P l0.toArray S oi v a := Or.inl ⟨hw, hy⟩
  simp only [takeB, Bool.and_eq_true, decide_eq_true_eq] at hb
  obtain ⟨⟨⟨⟨⟨b1, b2⟩, b3⟩, b6⟩, b7⟩, b8⟩ := hb
  exact HdAny.first hi b1 hQ b2 b3 (fun _ _ _ hL => seqB_ready hL.1) f listed a w (headB_spec b6) (Region.free_spec hi b7) (by simpa using b8) hy hS h

/-- Number i alone can come up. -/
theorem HdAny.one {n i : Nat} {l0 r : List Oper} {oi : Oper} {L : Array Bool → Act → World → Prop} {f : Nat} {listed : Array Bool} {a : Act} {w : World} (hd : l0.drop i = oi :: r)
    (hb : (decide (Region.ready md l0.toArray listed = [i]) && decide (i < n)) = true)
    (h : ∀ K : Act → World → Prop, Shut (∀ a' w', S w' → (S w' → HdAny P md l0.toArray Q S n L f (listed.setIfInBounds i true) a' w') → K a' w') → if Region.wanted oi (yielded l0.toArray a.tmps) = true then Oper.wp P oi a w K Q else K (a.put oi.dst undef) w) :
    HdAny P md l0.toArray Q S n L (f + 1) listed a w := by
  have hi := at_drop hd
  simp only [Bool.and_eq_true, decide_eq_true_eq] at hb
  refine ⟨by rw [hb.1]; exact List.cons_ne_nil _ _, fun j hj => ?_⟩
  rw [hb.1, List.mem_singleton] at hj
  subst hj
  exact ⟨hb.2, wpOp_step hi fun K hK => h K fun a' w' hS hW => hK a' w' ⟨hS, hW hS⟩⟩

/-- All of the head have come up. -/
theorem HdAny.done {n g : Nat} {l : List Oper} {listed : Array Bool} {a : Act} {w : World} (hb : Region.seqB md ops g n listed = true) (h : wpList P ops Q l a w) :
    HdAny P md ops Q S n (Tail P md ops Q n g l) 0 listed a w := ⟨hb, h⟩

/-- The beginning: the region whole. -/
theorem wp_region_free {id : Nat} {a : Act} {w : World} {l : List Oper} (F : Nat) (hm : P.follows .mixedOrders = true) (hl : l.length = F)
    (h : wpAny P .any l.toArray Q F (Array.replicate l.length false) a w.drew) : (Code.region id l.toArray true).wp P Q a w := by
  subst hl
  exact wp_region_any hm h
/-- Number i, which yields the same in whatever world, is taken first. -/
theorem any_take {i : Nat} {l0 r : List Oper} {oi : Oper} {v : Value} {f : Nat} {listed : Array Bool} {a : Act} {w : World} (hd : l0.drop i = oi :: r)
    (hb : (Region.noSelect l0.toArray && Region.free md l0.toArray listed i && (Region.ready md l0.toArray listed).contains i) = true)
    (hQ : ∀ c a w, Q (.panic c) (a.put oi.dst v) w → Q (.panic c) a w) (hw : Region.wanted oi (yielded l0.toArray a.tmps) = true) (hy : ∀ w, (execOp a.eval oi).run P w = .ok (.value v) w)
    (h : wpAny P md l0.toArray Q f (listed.setIfInBounds i true) (a.put oi.dst v) w) : wpAny P md l0.toArray Q (f + 1) listed a w := by
  simp only [Bool.and_eq_true] at hb
  exact wpAny_take (at_drop hd) hb.1.1 hb.1.2 hb.2 hQ (Or.inl ⟨hw, hy⟩) h
/-- The head begins: f operations of it are left, and g behind them. -/
theorem any_head {a : Act} {w : World} {l : List Oper} {listed : Array Bool} {F : Nat} (n f g : Nat) (S : World → Prop) (hF : F = f + g) (hl : l.length = n + g) (hS : S w)
    (h : S w → HdAny P md l.toArray Q S n (Tail P md l.toArray Q n g (l.drop n)) f listed a w) : wpAny P md l.toArray Q F listed a w := by
  subst hF
  have hd : (l.drop n).length = g := by rw [List.length_drop]; omega
  exact HdAny.any (g := g) (fun listed a' w' hL => by
    have h1 := wpAny_of_seq (md := md) (Q' := Q) (l.drop n) n listed a' w' (fun j => by simp [List.getElem?_drop]) (by rw [hd]; exact hL.1) hL.2
    rwa [hd] at h1) _ _ _ _ (h hS)
end
end Go.Proofs.YtpgdmbolckogcaaDoor
namespace Go.Proofs.YtpgdmbolckogcaaDoor
open Go.RowKit

theorem append_rowN {P : Program} {ops : Array Oper} {rest : List Oper} {o : Oper} {a : Act} {W : World} {Q : Exit → Act → World → Prop} (hgd : o.guard = none) (s x : Operand) (t : TypeId)
    (ho : o.op = .call { callee := .builtin .append, args := #[s, x], argTypes := #[t, t] })
    (base : Nat) (e : TypeId) (i : TypeInfo) (z : Value) (bytes : Nat) (ht : P.underlying t = some (.slice e)) (hi : P.info? e = some i) (hz : i.zero = some z)
    (hsize : i.size = 1) (hby : i.bytes = bytes) (hzs : z.cells.size = 1)
    (v : Value) (n : Nat) (xs : List Value) (hs : a.eval s = v) (hown : W.ownsRow base e 1 v n xs)
    (ad : Option Addr) (m c : Nat) (cs : List Value) (hx : a.eval x = .slice ad m c) (hr : RowAt W ad cs) (hm : cs.length = m) (hu : ∀ u ∈ cs, u.oneCell' = true)
    (h63 : n + m ≤ maxLen) (hbytes : (n + m) * bytes ≤ 140737488355328) (hbase : base ≤ W.heap.size)
    (h : ∀ v' w', w'.ownsRow base e 1 v' (n + m) (xs ++ cs) → W.grownBy w' v.ownBlock → (v'.ownBlock = v.ownBlock ∨ v'.ownBlock = some W.heap.size) → wpList P ops Q rest (a.put o.dst v') w') :
    wpList P ops Q (o :: rest) a W := by
  have hw : Region.wanted o (yielded ops a.tmps) = true := by simp [Region.wanted, hgd]
  have h1 := step_append_rowN (K := wpList P ops Q rest) (Q := Q) (E := False) (ops := ops) hgd s x t ho base e i z bytes ht hi hz hsize hby hzs v n xs hs hown ad m c cs hx hr hm hu h63 hbytes hbase h
  rw [if_pos hw] at h1
  show if Region.wanted o (yielded ops a.tmps) = true then _ else _
  rw [if_pos hw]
  exact Or.inl h1
theorem Polys.gridc {w : World} {N g G n cg : Nat} {wr : World} {sv : Value} {l : List Int} {hs : List Hd} (R : Polys w N g wr sv l (.slice (some ⟨G, 0, none⟩) n cg) hs) : GridC wr (some ⟨G, 0, none⟩) (hs.map Hd.l) := by
  have ho := R.outer
  obtain ⟨a, c, e, hr⟩ := own_row ho (by rw [hdCells_len])
  cases e
  refine ⟨hs, rfl, hr, fun h hh => ?_, fun h hh => ?_⟩
  · obtain ⟨h1, _, b, hb⟩ := R.inner h hh
    obtain ⟨a', c', e', hr'⟩ := own_row h1 (intCells_len _)
    unfold Hd.val at e'
    cases e'; exact hr'
  · obtain ⟨h1, _, b, hb⟩ := R.inner h hh
    unfold Hd.val at h1
    rw [hb] at h1
    exact (own_cap h1).1
/-- Rows that were drawn; the cursor goes on. -/
def BentG (w : World) (g : Nat) (e : Ending) (w' : World) : Prop := ∃ a c L, e = .returned (.slice a (L : List (List Int)).length c) ∧ GridC w' a L ∧ L.length ≤ 14 ∧ (∀ r ∈ L, r.length ≤ 15) ∧ CurAt w' g ∧ w.grownBy w' (some g)
theorem PolyOut.bent {w w' : World} {g n cG G : Nat} {sv : Value} {l : List Int} {hs : List Hd} (R : Polys w w.heap.size g w' sv l (.slice (some ⟨G, 0, none⟩) n cG) hs) (hn : hs.length = n) (h1 : hs.length ≤ 14) (h2 : ∀ h ∈ hs, h.l.length ≤ 15) : BentG w g (.returned (.slice (some ⟨G, 0, none⟩) n cG)) w' :=
  ⟨_, cG, hs.map Hd.l, by rw [List.length_map, hn], R.gridc, by rw [List.length_map]; exact h1, fun r hr => by obtain ⟨h, hh, rfl⟩ := List.mem_map.1 hr; exact h2 h hh, R.cur, R.gro⟩
set_option maxRecDepth 10000 in
set_option maxHeartbeats 16000000 in
theorem l3Bent (g : Nat) (w : World) (hc : CurAt w g) :
    Calls Tryd.prog 54 #[.pointer (some ⟨g, 0, none⟩)] w (BentG w g) := by
  have hgl := hc.lt
  obtain ⟨i0, hi0, hz0, hz1, hz2⟩ := info_int_parts
  have Hi0 := Lib.hid hi0; have Hz0 := Lib.hid hz0; have Hz1 := Lib.hid hz1; have Hz2 := Lib.hid hz2
  obtain ⟨i1, hi1, hy0, hy1, hy2⟩ := info_ints_parts
  have Hi1 := Lib.hid hi1; have Hy0 := Lib.hid hy0; have Hy1 := Lib.hid hy1; have Hy2 := Lib.hid hy2
  have Hdr := Lib.hid (l3Draw g w hc)
  clear hi0 hz0 hz1 hz2 hi1 hy0 hy1 hy2 hc
  go_enter Tryd.func54, Tryd.ntmps54
  go_wp2_with fail
  refine Hdr.out.mono ?_
  rintro e w1 ⟨G, cG, hs, sv, l, rfl, R1, hn1, hn2, hlen⟩
  have HR1 := Lib.hid R1; have Hlen := Lib.hid hlen
  clear R1 hlen
  go_wp2_with fail
  refine (l1Below g 20 _ HR1.out.cur (by omega) (by omega)).mono ?_
  rintro e w2 ⟨⟨x, rfl, hx0, hx1⟩, hc2, hg2⟩
  have HR2 := Lib.hid (HR1.out.draw hgl hc2 hg2)
  have hNw : w.heap.size ≤ w2.heap.size := HR2.out.gro.size
  clear hc2 hg2 HR1
  by_cases e0 : x = 0
  · subst e0
    have hout1 := HR2.out.outer.alloc (.cells #[] 3)
    have hN1 : w.heap.size ≤ (w2.alloc (.cells #[] 3)).heap.size := by simp; omega
    have hK1 : (w2.alloc (.cells #[] 3)).heap.size = w2.heap.size + 1 := by simp
    have hq1 : hs.length + 1 ≤ maxLen := by unfold maxLen; omega
    have hq2 : (hs.length + 1) * 24 ≤ 140737488355328 := by omega
    have Hfin : Hid (∀ v3 w3, w3.ownsRow w.heap.size 36 1 v3 (hs.length + 1) (hdCells hs ++ [.slice (some ⟨w2.heap.size, 0, none⟩) 0 0]) → ((w2.alloc (.cells #[] 3)).alloc (.cells #[.slice (some ⟨w2.heap.size, 0, none⟩) 0 0] 36)).grownBy w3 (Value.slice (some ⟨G, 0, none⟩) hs.length cG).ownBlock → BentG w g (.returned v3) w3 ∧ ∃ a c, v3 = .slice a (hs.length + 1) c) := Lib.hid (fun v3 w3 ho hg => by
      have hp := HR2.out.push rfl hgl hg ho
      obtain ⟨G3, c3, rfl, _, _⟩ := own_form ho (by omega)
      refine ⟨PolyOut.bent hp (by simp) (by simp; omega) (fun h hh => ?_), _, _, rfl⟩
      rcases List.mem_append.1 hh with hh | hh
      · have := (Hlen.out h hh).2; omega
      · rw [List.mem_singleton.1 hh]; simp)
    go_wp2_with (at_builtin; refine append_litK (.slice (some ⟨w2.heap.size, 0, none⟩) 0 0) (w2.heap.size + 1) hK1 rfl (.tmp 10) (.tmp 12) 22 rfl w.heap.size 36 i1 _ 24 Tryd.underlying22 Hi1.out Hy0.out Hy1.out Hy2.out (by rfl) _ _ _ rfl hout1 (by rfl) _ rfl hq1 hq2 hN1 ?_; intro v3 w3 hown3 hg3; obtain ⟨hB, a3, c3, rfl⟩ := Hfin.out v3 w3 hown3 hg3; have HB := Lib.hid hB; clear hB hown3 hg3)
    go_ret
    exact HB.out
  · by_cases e1 : x = 1
    · subst e1
      obtain ⟨h, hp⟩ := get_some (l := hs) (i := 0) (by omega)
      have hcell := HR2.out.cell rfl hp
      obtain ⟨hown, hT, b, hb⟩ := HR2.out.inner h (get_mem hp)
      obtain ⟨hne, hr13⟩ := Hlen.out h (get_mem hp)
      obtain ⟨ha, hcap, hr⟩ := h
      simp only at hb hown hcell hT hne hr13
      subst hb
      have hrp : 0 < hr.length := List.length_pos_iff.2 hne
      have hz : ∃ z, hr[0]? = some z := ⟨hr[0], List.getElem?_eq_getElem hrp⟩
      obtain ⟨z, hz⟩ := hz
      have hzc : w2.cell? ⟨b, 0, none⟩ = some (.int .i64 z) := by
        have := own_cell hown hrp rfl
        rw [this]
        rw [List.getElem?_eq_getElem hrp] at hz
        rw [Option.some.inj hz]
      have hz9 := hT z (get_mem hz)
      have hr0 : (0 : Int) < (hr.length : Int) := by omega
      have hn0 : (0 : Int) < (hs.length : Int) := by omega
      have hn0N : 0 < hs.length := by omega
      have hn0Z : ¬ hs.length = 0 := by omega
      have hcellA : ∀ o : Obj, (w2.alloc o).cell? ⟨G, 0, none⟩ = some (.slice (some ⟨b, 0, none⟩) hr.length hcap) := fun o => by
        rw [((Below.refl w2.heap.size w2).alloc (Nat.le_refl _) o).cell (p := ⟨G, 0, none⟩) (HR2.out.outer.lt G rfl).2]; exact hcell
      have hzcA : ∀ o : Obj, (w2.alloc o).cell? ⟨b, 0, none⟩ = some (.int .i64 z) := fun o => by
        rw [((Below.refl w2.heap.size w2).alloc (Nat.le_refl _) o).cell (p := ⟨b, 0, none⟩) (hown.lt b rfl).2]; exact hzc
      have Hp := Lib.hid hp
      have R3 : Polys w w.heap.size g (w2.alloc (.cells #[.int .i64 z, .int .i64 8, .int .i64 9] 3)).drew sv l (.slice (some ⟨G, 0, none⟩) hs.length cG) hs :=
        HR2.out.aside rfl rfl (only_drew (World.grownBy.refl _ _))
      have Hpick := Lib.hid (l1PickInt g w2.heap.size 3 [z, 8, 9] (w2.alloc (.cells #[.int .i64 z, .int .i64 8, .int .i64 9] 3)).drew R3.cur (Blk.new w2 3 #[.int .i64 z, .int .i64 8, .int .i64 9]).drew (by have := HR2.out.cur.lt; omega) (by simp) (by simp))
      have HR3 := Lib.hid R3
      have hm3 : hr.length + 2 ≤ maxLen := by unfold maxLen; omega
      have hm4 : (hr.length + 2) * 8 ≤ 140737488355328 := by omega
      have hnxt : ∀ (u : Value) (w5 : World), u ∈ intCells [z, 8, 9] → CurAt w5 g → (w2.alloc (.cells #[.int .i64 z, .int .i64 8, .int .i64 9] 3)).drew.grownBy w5 (some g) → ∃ y, u = .int .i64 y ∧ -9 ≤ y ∧ y ≤ 9 ∧
          w5.cell? ⟨G, 0, none⟩ = some (.slice (some ⟨b, 0, none⟩) hr.length hcap) ∧ w5.cell? ⟨b, 0, none⟩ = some (.int .i64 z) ∧ Hid (Polys w w.heap.size g w5 sv l (.slice (some ⟨G, 0, none⟩) hs.length cG) hs) ∧
          (∀ o : Obj, (w5.alloc o).cell? ⟨G, 0, none⟩ = some (.slice (some ⟨b, 0, none⟩) hr.length hcap)) ∧ (∀ o : Obj, (w5.alloc o).cell? ⟨b, 0, none⟩ = some (.int .i64 z)) ∧
          Hid ((w5.alloc (.cells #[.int .i64 z, .int .i64 y] 3)).ownsRow w.heap.size 3 1 (.slice (some ⟨b, 0, none⟩) hr.length hcap) hr.length (intCells hr)) ∧ Hid (RowAt (w5.alloc (.cells #[.int .i64 z, .int .i64 y] 3)) (some ⟨w5.heap.size, 0, none⟩) (intCells [z, y])) ∧ w.heap.size ≤ (w5.alloc (.cells #[.int .i64 z, .int .i64 y] 3)).heap.size := fun u w5 hu hc5 hg5 => by
        have R5 := HR3.out.draw hgl hc5 hg5
        obtain ⟨y, hy, rfl⟩ := List.mem_map.1 hu
        have hown5 := (R5.inner _ (get_mem Hp.out)).1
        simp only [Hd.val] at hown5
        have c1 := R5.cell rfl Hp.out
        have c2 : w5.cell? ⟨b, 0, none⟩ = some (.int .i64 z) := by
          have := own_cell hown5 hrp rfl
          rw [this]
          rw [List.getElem?_eq_getElem hrp] at hz
          rw [Option.some.inj hz]
        have hN5 := R5.gro.size
        refine ⟨y, rfl, ?_, ?_, c1, c2, Lib.hid R5, fun o => ?_, fun o => ?_, Lib.hid (hown5.alloc _), Lib.hid (Blk.new w5 3 #[.int .i64 z, .int .i64 y]).row, by simp; omega⟩
        · simp only [List.mem_cons, List.not_mem_nil, or_false] at hy; rcases hy with rfl | rfl | rfl <;> omega
        · simp only [List.mem_cons, List.not_mem_nil, or_false] at hy; rcases hy with rfl | rfl | rfl <;> omega
        · rw [((Below.refl w5.heap.size w5).alloc (Nat.le_refl _) o).cell (p := ⟨G, 0, none⟩) (R5.outer.lt G rfl).2]; exact c1
        · rw [((Below.refl w5.heap.size w5).alloc (Nat.le_refl _) o).cell (p := ⟨b, 0, none⟩) (hown5.lt b rfl).2]; exact c2
      have Hnxt := Lib.hid hnxt
      have hlast : ∀ (y : Int) (w5 : World) (v6 : Value) (w6 : World), -9 ≤ y → y ≤ 9 → Polys w w.heap.size g w5 sv l (.slice (some ⟨G, 0, none⟩) hs.length cG) hs → w6.ownsRow w.heap.size 3 1 v6 (hr.length + 2) (intCells hr ++ intCells [z, y]) → (w5.alloc (.cells #[.int .i64 z, .int .i64 y] 3)).grownBy w6 (Value.slice (some ⟨b, 0, none⟩) hr.length hcap).ownBlock → (v6.ownBlock = (Value.slice (some ⟨b, 0, none⟩) hr.length hcap).ownBlock ∨ v6.ownBlock = some (w5.alloc (.cells #[.int .i64 z, .int .i64 y] 3)).heap.size) →
          w6.cell? ⟨G, 0, none⟩ = some (.slice (some ⟨b, 0, none⟩) hr.length hcap) ∧ w6.frozen? ⟨G, 0, none⟩ = false ∧ ∃ b6 c6, v6 = .slice (some ⟨b6, 0, none⟩) (hr.length + 2) c6 ∧ Hid (BentG w g (.returned (.slice (some ⟨G, 0, none⟩) hs.length cG)) (w6.setCell ⟨G, 0, none⟩ v6)) := fun y w5 v6 w6 y0 y1 R5 ho hg hk => by
        have R6 : Polys w w.heap.size g (w5.alloc (.cells #[.int .i64 z, .int .i64 y] 3)) sv l (.slice (some ⟨G, 0, none⟩) hs.length cG) hs := R5.aside rfl rfl (World.grownBy.refl _ _)
        obtain ⟨b6, c6, rfl, _, _⟩ := own_form ho (by omega)
        have hin := (R6.inner _ (get_mem Hp.out)).1
        have ho6 := kept_type R6.outer hin (by decide) hg
        have hins := R6.insert (hr' := hr ++ [z, y]) rfl hgl Hp.out hg (by rw [show intCells (hr ++ [z, y]) = intCells hr ++ intCells [z, y] from by simp [intCells]]; exact ho) (by simp) (fun q hq => by
          rcases List.mem_append.1 hq with hq | hq
          · exact hT q hq
          · simp only [List.mem_cons, List.not_mem_nil, or_false] at hq; rcases hq with rfl | rfl <;> omega) (by
          rcases hk with e | e
          · exact Or.inl (own_block e).symm
          · exact Or.inr (by have := own_block e; omega))
        have hc0 : hs.length > 0 := by omega
        refine ⟨?_, ho6.frozenAt 0, b6, c6, rfl, Lib.hid (PolyOut.bent hins (by simp) (by simp; omega) (fun h hh => ?_))⟩
        · rw [ho6.cellAt 0 (by omega), hdCells_get hc0]
          have := Hp.out
          rw [List.getElem?_eq_getElem hc0] at this
          rw [Option.some.inj this]; rfl
        · rcases List.mem_or_eq_of_mem_set hh with hh | rfl
          · have := (Hlen.out h hh).2; omega
          · simp; omega
      have Hlast := Lib.hid hlast
      clear R3 hlast hnxt hown hT hne hz hp
      go_wp2
      refine wp_region_free 21 (by kernel_rfl) rfl ?_
      refine any_take (i := 0) (v := ?_) rfl (by kernel_rfl) (fun _ _ _ h => h) rfl ?_ ?_
      rotate_left; · (intro w'; go_simp; try with_reducible rfl)
      try simp only [Act.put, List.setIfInBounds_toArray, List.set_cons_zero, List.set_cons_succ]
      refine any_head 18 17 3 (fun w' => w'.cell? ⟨G, 0, none⟩ = some (.slice (some ⟨b, 0, none⟩) hr.length hcap) ∧ w'.cell? ⟨b, 0, none⟩ = some (.int .i64 z)) rfl rfl ⟨hcell, hzc⟩ (fun hS => ?_)
      refine HdAny.take (i := 1) (v := ?_) rfl (by kernel_rfl) (fun _ _ _ h => h) rfl ?_ hS ?_
      rotate_left; · (intro w' hSw; go_split_ands; go_simp; try with_reducible rfl)
      try simp only [Act.put, List.setIfInBounds_toArray, List.set_cons_zero, List.set_cons_succ]
      refine HdAny.take (i := 2) (v := ?_) rfl (by kernel_rfl) (fun _ _ _ h => h) rfl ?_ hS ?_
      rotate_left; · (intro w' hSw; go_split_ands; go_simp; try with_reducible rfl)
      try simp only [Act.put, List.setIfInBounds_toArray, List.set_cons_zero, List.set_cons_succ]
      refine HdAny.take (i := 3) (v := ?_) rfl (by kernel_rfl) (fun _ _ _ h => h) rfl ?_ hS ?_
      rotate_left; · (intro w' hSw; go_split_ands; go_simp; try with_reducible rfl)
      try simp only [Act.put, List.setIfInBounds_toArray, List.set_cons_zero, List.set_cons_succ]
      refine HdAny.take (i := 4) (v := ?_) rfl (by kernel_rfl) (fun _ _ _ h => h) rfl ?_ hS ?_
      rotate_left; · (intro w' hSw; go_split_ands; go_simp; try with_reducible rfl)
      try simp only [Act.put, List.setIfInBounds_toArray, List.set_cons_zero, List.set_cons_succ]
      refine HdAny.take (i := 5) (v := ?_) rfl (by kernel_rfl) (fun _ _ _ h => h) rfl ?_ hS ?_
      rotate_left; · (intro w' hSw; go_split_ands; go_simp; try with_reducible rfl)
      try simp only [Act.put, List.setIfInBounds_toArray, List.set_cons_zero, List.set_cons_succ]
      refine HdAny.take (i := 6) (v := ?_) rfl (by kernel_rfl) (fun _ _ _ h => h) rfl ?_ hS ?_
      rotate_left; · (intro w' hSw; go_split_ands; go_simp; try with_reducible rfl)
      try simp only [Act.put, List.setIfInBounds_toArray, List.set_cons_zero, List.set_cons_succ]
      refine HdAny.take (i := 7) (v := ?_) rfl (by kernel_rfl) (fun _ _ _ h => h) rfl ?_ hS ?_
      rotate_left; · (intro w' hSw; go_split_ands; go_simp; try with_reducible rfl)
      try simp only [Act.put, List.setIfInBounds_toArray, List.set_cons_zero, List.set_cons_succ]
      refine HdAny.take (i := 8) (v := ?_) rfl (by kernel_rfl) (fun _ _ _ h => h) rfl ?_ hS ?_
      rotate_left; · (intro w' hSw; go_split_ands; go_simp; try with_reducible rfl)
      try simp only [Act.put, List.setIfInBounds_toArray, List.set_cons_zero, List.set_cons_succ]
      refine HdAny.take (i := 9) (v := ?_) rfl (by kernel_rfl) (fun _ _ _ h => h) rfl ?_ hS ?_
      rotate_left; · (intro w' hSw; go_split_ands; go_simp; try with_reducible rfl)
      try simp only [Act.put, List.setIfInBounds_toArray, List.set_cons_zero, List.set_cons_succ]
      refine HdAny.take (i := 10) (v := ?_) rfl (by kernel_rfl) (fun _ _ _ h => h) rfl ?_ hS ?_
      rotate_left; · (intro w' hSw; go_split_ands; go_simp; try with_reducible rfl)
      try simp only [Act.put, List.setIfInBounds_toArray, List.set_cons_zero, List.set_cons_succ]
      refine HdAny.take (i := 11) (v := ?_) rfl (by kernel_rfl) (fun _ _ _ h => h) rfl ?_ hS ?_
      rotate_left; · (intro w' hSw; go_split_ands; go_simp; try with_reducible rfl)
      try simp only [Act.put, List.setIfInBounds_toArray, List.set_cons_zero, List.set_cons_succ]
      refine HdAny.take (i := 12) (v := ?_) rfl (by kernel_rfl) (fun _ _ _ h => h) rfl ?_ hS ?_
      rotate_left; · (intro w' hSw; go_split_ands; go_simp; try with_reducible rfl)
      try simp only [Act.put, List.setIfInBounds_toArray, List.set_cons_zero, List.set_cons_succ]
      refine HdAny.take (i := 13) (v := ?_) rfl (by kernel_rfl) (fun _ _ _ h => h) rfl ?_ hS ?_
      rotate_left; · (intro w' hSw; go_split_ands; go_simp; try with_reducible rfl)
      try simp only [Act.put, List.setIfInBounds_toArray, List.set_cons_zero, List.set_cons_succ]
      refine HdAny.take (i := 14) (v := ?_) rfl (by kernel_rfl) (fun _ _ _ h => h) rfl ?_ hS ?_
      rotate_left; · (intro w' hSw; go_split_ands; go_simp; try with_reducible rfl)
      try simp only [Act.put, List.setIfInBounds_toArray, List.set_cons_zero, List.set_cons_succ]
      refine HdAny.one (i := 15) rfl (by kernel_rfl) (fun K hK => ?_)
      go_simp
      refine hK.out _ _ ⟨hcellA _, hzcA _⟩ (fun hS => ?_)
      clear hK K
      try simp only [Act.put, List.setIfInBounds_toArray, List.set_cons_zero, List.set_cons_succ]
      refine HdAny.one (i := 16) rfl (by kernel_rfl) (fun K hK => ?_)
      go_simp
      go_at_call 87
      refine Hpick.out.mono ?_
      rintro e w5 ⟨⟨u, hu, rfl⟩, hc5, hg5⟩
      obtain ⟨y, rfl, y0, y1, k1, k2, HR5, k3, k4, Hown5, Hrow5, hN5⟩ := Hnxt.out u w5 hu hc5 hg5
      clear hu hc5 hg5
      go_simp
      refine hK.out _ _ ⟨k1, k2⟩ (fun hS => ?_)
      clear hK K
      try simp only [Act.put, List.setIfInBounds_toArray, List.set_cons_zero, List.set_cons_succ]
      refine HdAny.one (i := 17) rfl (by kernel_rfl) (fun K hK => ?_)
      go_simp
      refine hK.out _ _ ⟨k3 _, k4 _⟩ (fun hS => ?_)
      clear hK K
      try simp only [Act.put, List.setIfInBounds_toArray, List.set_cons_zero, List.set_cons_succ]
      refine HdAny.done (by kernel_rfl) ?_
      simp only [List.drop_succ_cons, List.drop_zero]
      go_wp2_with (at_builtin; refine append_rowN rfl (.tmp 19) (.tmp 33) 36 rfl w.heap.size 3 i0 _ 8 Tryd.underlying36 Hi0.out Hz0.out Hz1.out Hz2.out (by rfl) _ hr.length _ (by rfl) Hown5.out _ 2 _ (intCells [z, y]) (by rfl) Hrow5.out (by rfl) (intCells_one _) hm3 hm4 hN5 ?_; intro v6 w6 hown6 hg6 hk6; obtain ⟨q1, q2, b6, c6, rfl, HB⟩ := Hlast.out y w5 v6 w6 y0 y1 HR5.out hown6 hg6 hk6; clear hown6 hg6 hk6)
      go_wp2
      go_ret
      exact HB.out
    · by_cases e2 : x = 2
      · subst e2
        go_wp2
        go_ret
        exact ⟨_, 0, [], rfl, ⟨[], rfl, Or.inl rfl, fun _ h => (by cases h), fun _ h => (by cases h)⟩, by simp, fun _ h => (by cases h), HR2.out.cur.alloc _, HR2.out.gro.trans (World.grownBy_alloc _ _ _)⟩
      · have e0' : (x == 0) = false := beq_eq_false_iff_ne.2 e0
        have e1' : (x == 1) = false := beq_eq_false_iff_ne.2 e1
        have e2' : (x == 2) = false := beq_eq_false_iff_ne.2 e2
        clear e0 e1 e2
        go_wp2
        go_ret
        exact PolyOut.bent HR2.out rfl (by omega) (fun h hh => by have := (Hlen.out h hh).2; omega)
end Go.Proofs.YtpgdmbolckogcaaDoor
namespace Go.Proofs.YtpgdmbolckogcaaDoor
open Go.RowKit

/-- Rows that were drawn. -/
def DrawnG (w : World) (e : Ending) (w' : World) : Prop := ∃ a c L, e = .returned (.slice a (L : List (List Int)).length c) ∧ GridC w' a L ∧ L.length ≤ 14 ∧ (∀ r ∈ L, r.length ≤ 15) ∧ Below w.heap.size w w'
set_option maxRecDepth 10000 in
set_option maxHeartbeats 2000000 in
theorem drawIsGluing (a : Option Addr) (c : Nat) (l : List Int) (w : World) (ha : RowAt w a (byteCells l)) (hb : ∀ x ∈ l, 0 ≤ x ∧ x ≤ 255) (hsz : l.length ≤ 1048576) :
    Calls Tryd.prog 16 #[.slice a l.length c] w (DrawnG w) := by
  go_enter Tryd.func16, Tryd.ntmps16
  go_wp2_with fail
  refine (l1New a c l w ha hb hsz).mono ?_
  rintro e w1 ⟨g, rfl, hgl, hc, hb1⟩
  have Hb1 := Lib.hid hb1
  go_wp2_with fail
  refine (l3Bent g w1 hc).mono ?_
  rintro e w2 ⟨ra, rc, L, rfl, hG, hn, hr, hc2, hg2⟩
  have Hfin := Lib.hid (show DrawnG w (.returned (.slice ra L.length rc)) w2 from ⟨ra, rc, L, rfl, hG, hn, hr, below_of_only Hb1.out hg2 hgl⟩)
  clear hG hn hr hc2 hg2 hc hb1
  go_wp2
  go_ret
  exact Hfin.out
end Go.Proofs.YtpgdmbolckogcaaDoor
namespace Go.Proofs.YtpgdmbolckogcaaDoor
open Go.RowKit

/-- Rows that lie in a world. -/
def Rows (w : World) (rs : List (Option Addr × List Int)) : Prop := ∀ r ∈ rs, RowAt w r.1 (intCells r.2)
theorem Rows.nil (w : World) : Rows w [] := fun _ h => by cases h
theorem Rows.below {w w' : World} {rs : List (Option Addr × List Int)} (h : Rows w rs) (hb : Below w.heap.size w w') : Rows w' rs := fun r hr => (h r hr).below hb
theorem Rows.cons {w : World} {rs : List (Option Addr × List Int)} (h : Rows w rs) {a : Option Addr} {l : List Int} (hr : RowAt w a (intCells l)) : Rows w ((a, l) :: rs) := fun r hm => by
  rcases List.mem_cons.1 hm with rfl | hm
  · exact hr
  · exact h r hm
theorem Rows.get {w : World} {rs : List (Option Addr × List Int)} (h : Rows w rs) (a : Option Addr) (l : List Int) (hm : (a, l) ∈ rs) : RowAt w a (intCells l) := h (a, l) hm

set_option maxRecDepth 10000 in
set_option maxHeartbeats 400000 in
theorem sameInts_eq (a a' : Option Addr) (c c' : Nat) (l : List Int) (w : World) (ha : RowAt w a (intCells l)) (ha' : RowAt w a' (intCells l)) (hl : l.length ≤ 9223372036854775807) :
    Calls Tryd.prog 23 #[.slice a l.length c, .slice a' l.length c'] w fun e w' => e = .returned (.bool true) ∧ Below w.heap.size w w' := by
  go_enter Tryd.func23, Tryd.ntmps23
  go_wp2
  go_loopw [4, 5] (fun rv iv wr => rv = .bool false ∧ ∃ i : Nat, i ≤ l.length ∧ iv = .int .i64 i ∧ Below w.heap.size w wr) (fun _ iv _ => l.length - (intOf iv).toNat)
  case atStart => exact ⟨rfl, 0, by omega, rfl, Below.refl _ _⟩
  case round =>
    obtain ⟨rfl, i, hi, rfl, hb⟩ := hrel
    by_cases hlt : i < l.length
    · obtain ⟨b, o, rfl, hbw, hcell⟩ := intCells_at (ha.below hb) hlt
      obtain ⟨b', o', rfl, hbw', hcell'⟩ := intCells_at (ha'.below hb) hlt
      generalize l[i] = x at hcell hcell'
      have h0 : (0 : Int) ≤ (i : Int) := by omega
      have h1 : (i : Int) < (l.length : Int) := by omega
      go_wp2
      go_quiet (fail)
      all_goals go_wp2
      all_goals
        go_roundw
        case rel => exact ⟨rfl, i + 1, by omega, by go_num, below_drewN hb _⟩
        case measure => simp [intOf]; omega
    · obtain rfl : i = l.length := by omega
      go_wp2
      go_ret
      exact ⟨rfl, hb⟩
end Go.Proofs.YtpgdmbolckogcaaDoor
namespace Go.Proofs.YtpgdmbolckogcaaDoor
open Go.RowKit

set_option maxRecDepth 10000 in
set_option maxHeartbeats 400000 in
theorem sameInts_q (a a' : Option Addr) (c c' : Nat) (l : List Int) (w : World) (ha : RowAt w a (intCells l)) (ha' : RowAt w a' (intCells l)) (hl : l.length ≤ 9223372036854775807) :
    Calls Tryd.prog 23 #[.slice a l.length c, .slice a' l.length c'] w fun e w' => e = .returned (.bool true) ∧ ∃ m, w' = w.drewN m := by
  go_enter Tryd.func23, Tryd.ntmps23
  go_wp2
  go_loopw [4, 5] (fun rv iv wr => rv = .bool false ∧ ∃ i : Nat, i ≤ l.length ∧ iv = .int .i64 i ∧ Hid (∃ m, wr = w.drewN m)) (fun _ iv _ => l.length - (intOf iv).toNat)
  case atStart => exact ⟨rfl, 0, by omega, rfl, Lib.hid ⟨0, rfl⟩⟩
  case round =>
    obtain ⟨rfl, i, hi, rfl, hm⟩ := hrel
    have hb : Hid (Below w.heap.size w wr) := Lib.hid (by obtain ⟨m, rfl⟩ := hm.out; exact below_drewN (Below.refl _ w) m)
    by_cases hlt : i < l.length
    · obtain ⟨b, o, rfl, hbw, hcell⟩ := intCells_at (ha.below hb.out) hlt
      obtain ⟨b', o', rfl, hbw', hcell'⟩ := intCells_at (ha'.below hb.out) hlt
      generalize l[i] = x at hcell hcell'
      have h0 : (0 : Int) ≤ (i : Int) := by omega
      have h1 : (i : Int) < (l.length : Int) := by omega
      go_wp2
      go_quiet (fail)
      all_goals go_wp2
      all_goals
        go_roundw
        case rel => exact ⟨rfl, i + 1, by omega, by go_num, Lib.hid (by obtain ⟨m, rfl⟩ := hm.out; exact ⟨_, World.drewN_drewN ..⟩)⟩
        case measure => simp [intOf]; omega
    · obtain rfl : i = l.length := by omega
      go_wp2
      go_ret
      exact ⟨rfl, hm.out⟩

set_option maxRecDepth 10000 in
set_option maxHeartbeats 400000 in
theorem sameLists_eq (a a' : Option Addr) (c c' : Nat) (L : List (List Int)) (w : World) (ha : GridAt w a L) (ha' : GridAt w a' L) (hl : tot L ≤ 1048576) :
    Calls Tryd.prog 20 #[.slice a L.length c, .slice a' L.length c'] w fun e w' => e = .returned (.bool true) ∧ Below w.heap.size w w' := by
  have Ha := Lib.hid ha
  have Ha' := Lib.hid ha'
  have HL := Lib.hid hl
  have hln : L.length ≤ 1048576 := by unfold tot at hl; omega
  clear ha ha' hl
  go_enter Tryd.func20, Tryd.ntmps20
  go_wp2
  go_loopw [4, 5] (fun rv iv wr => rv = .bool false ∧ ∃ i : Nat, i ≤ L.length ∧ iv = .int .i64 i ∧ Hid (Below w.heap.size w wr)) (fun _ iv _ => L.length - (intOf iv).toNat)
  case atStart => exact ⟨rfl, 0, by omega, rfl, Lib.hid (Below.refl _ _)⟩
  case round =>
    obtain ⟨rfl, i, hi, rfl, hb⟩ := hrel
    by_cases hlt : i < L.length
    · obtain ⟨b, o, ai, ci, rfl, hbw, hcell, hrow⟩ := (Ha.out.below hb.out).at hlt
      obtain ⟨b', o', ai', ci', rfl, hbw', hcell', hrow'⟩ := (Ha'.out.below hb.out).at hlt
      have hll : L[i].length ≤ 1048576 := by have := len_le_sumLen hlt; have := HL.out; unfold tot at this; omega
      generalize L[i] = r at *
      have Hrow := Lib.hid hrow
      have Hrow' := Lib.hid hrow'
      have h0 : (0 : Int) ≤ (i : Int) := by omega
      have h1 : (i : Int) < (L.length : Int) := by omega
      clear hrow hrow'
      go_wp2
      go_quiet (exact Calls.quiet_of (sameInts_q ai ai' ci ci' r _ (Hrow.out.below (below_drewN (Below.refl _ _) _)) (Hrow'.out.below (below_drewN (Below.refl _ _) _)) (by omega)))
      all_goals go_wp2
      all_goals
        go_roundw
        case rel => exact ⟨rfl, i + 1, by omega, by go_num, Lib.hid (below_drewN hb.out _)⟩
        case measure => simp [intOf]; omega
    · obtain rfl : i = L.length := by omega
      go_wp2
      go_ret
      exact ⟨rfl, hb.out⟩

end Go.Proofs.YtpgdmbolckogcaaDoor
