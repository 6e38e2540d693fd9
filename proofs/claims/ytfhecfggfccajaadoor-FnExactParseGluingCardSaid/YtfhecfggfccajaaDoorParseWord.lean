/-
  The walk of the model's ParseWord.
-/
import Derived.Test.YtfhecfggfccajaaDoorBase
import Derived.Test.YtfhecfggfccajaaDoorSlice
import Derived.Test.YtfhecfggfccajaaDoorInts
import Derived.Test.YtfhecfggfccajaaDoorOwn
import Derived.Test.YtfhecfggfccajaaDoorWord
namespace Go.Proofs.YtfhecfggfccajaaDoor
open Go.RowKit

namespace Word
theorem letterOf_low {b : UInt8} (h1 : 97 ≤ (b.toNat : Int)) (h2 : (b.toNat : Int) ≤ 104) : letterOf b = (b.toNat : Int) - 97 + 1 := by
  unfold letterOf; rw [if_pos (by omega)]; omega
theorem letterOf_up {b : UInt8} (h1 : 65 ≤ (b.toNat : Int)) (h2 : (b.toNat : Int) ≤ 72) : letterOf b = -((b.toNat : Int) - 65 + 1) := by
  unfold letterOf; rw [if_neg (by omega), if_pos (by omega)]; omega
theorem letterOf_none {b : UInt8} (h1 : ¬ (97 ≤ (b.toNat : Int) ∧ (b.toNat : Int) ≤ 104)) (h2 : ¬ (65 ≤ (b.toNat : Int) ∧ (b.toNat : Int) ≤ 72)) : letterOf b = 0 := by
  unfold letterOf; rw [if_neg (by omega), if_neg (by omega)]
/-- The first i bytes stand for letters. -/
def Sofar (s : List UInt8) (i : Nat) : Prop := ∀ j (h : j < s.length), j < i → letterOf s[j] ≠ 0
theorem sofar_step {s : List UInt8} {i : Nat} (h : Sofar s i) (hi : i < s.length) (hx : letterOf s[i] ≠ 0) : Sofar s (i + 1) := fun j hj hji => by
  rcases Nat.lt_or_ge j i with h' | h'
  · exact h j hj h'
  · obtain rfl : j = i := by omega
    exact hx
theorem not_parses {s : List UInt8} (h0 : s ≠ [45]) {i : Nat} (hi : i < s.length) (hx : letterOf s[i] = 0) : ¬ Parses s := by
  rintro (h | ⟨_, _, h⟩)
  · exact h0 h
  · exact h _ (List.getElem_mem hi) hx
theorem parses_of {s : List UInt8} (h : Sofar s s.length) (h0 : s.length ≠ 0) (h24 : s.length ≤ 24) : Parses s :=
  Or.inr ⟨by rintro rfl; exact h0 rfl, h24, fun b hb => by obtain ⟨j, hj, rfl⟩ := List.mem_iff_getElem.1 hb; exact h j hj hj⟩
theorem not_parses_len {s : List UInt8} (h0 : s ≠ [45]) (h : s.length = 0 ∨ 24 < s.length) : ¬ Parses s := by
  rintro (h1 | ⟨h1, h2, _⟩)
  · exact h0 h1
  · rcases h with h | h
    · exact h1 (List.eq_nil_of_length_eq_zero h)
    · omega
theorem parsed_not {s : List UInt8} (h0 : s ≠ [45]) (h : ¬ Parses s) : parsed s = [] := by
  unfold parsed; rw [if_neg h0, if_neg h]
theorem parsed_of {s : List UInt8} (h0 : s ≠ [45]) (h : Parses s) : parsed s = s.map letterOf := by
  unfold parsed; rw [if_neg h0, if_pos h]
theorem map_take {s : List UInt8} {i : Nat} (h : i < s.length) : (s.take (i + 1)).map letterOf = (s.take i).map letterOf ++ [letterOf s[i]] := by
  rw [List.take_succ_eq_append_getElem h, List.map_append]; rfl
theorem parsed_len (s : List UInt8) : (parsed s).length ≤ 24 := by
  unfold parsed
  split
  · simp
  · split
    · rename_i h1 h2
      rcases h2 with h2 | ⟨_, h2, _⟩
      · exact absurd h2 h1
      · simpa using h2
    · simp
end Word

set_option maxRecDepth 10000 in
set_option maxHeartbeats 1000000 in
theorem spec_ParseWord (s : ByteArray) (w : World) (hs : s.size ≤ 1048576) :
    Calls Tryd.prog 40 #[.string s] w fun e w' => Gives2 w (Word.parsed s.data.toList) (decide (Word.Parses s.data.toList)) e w' := by
  by_cases h45 : s = ⟨#[45]⟩
  · subst h45
    go_enter Tryd.func40, Tryd.ntmps40
    go_wp2
    go_ret2
    rw [show Word.parsed (⟨#[45]⟩ : ByteArray).data.toList = [] from rfl, show decide (Word.Parses (⟨#[45]⟩ : ByteArray).data.toList) = true from rfl]
    exact (own_gives (l := []) (by exact own_made (w := w) rfl) rfl ((Below.refl _ _).alloc (Nat.le_refl _) _)).with
  · have h45' : s.data.toList ≠ [45] := fun e => h45 (ByteArray.ext (by rw [← Array.toList_inj]; exact e))
    have hbeq : (s.toList == [45]) = false := by rw [beq_eq_false_iff_ne, ByteArray.toList_eq]; exact h45'
    have H45 := Lib.hid h45'; clear h45'
    obtain ⟨i0, hi0, hz0, hz1, hz2⟩ := info_int_parts
    have Hi0 := Lib.hid hi0; have Hz0 := Lib.hid hz0; have Hz1 := Lib.hid hz1; have Hz2 := Lib.hid hz2
    clear hi0 hz0 hz1 hz2
    generalize hN : w.heap.size = N at *
    have HN := Lib.hid hN
    have hsl : s.data.toList.length = s.size := by simp
    have Hsl := Lib.hid hsl; clear hsl
    go_enter Tryd.func40, Tryd.ntmps40
    go_wp2
    clear hN
    go_loopw [2, 3, 4, 5] (fun r1 r2 ov iv wr => r1 = .slice none 0 0 ∧ r2 = .bool false ∧ ∃ i : Nat, i ≤ s.size ∧ iv = .int .i64 i ∧ Below N w wr ∧ wr.ownsRow N 3 1 ov i (intCells ((s.data.toList.take i).map Word.letterOf)) ∧ Hid (Word.Sofar s.data.toList i)) (fun _ _ _ iv _ => s.size - (intOf iv).toNat)
    case atStart => exact ⟨rfl, rfl, 0, by omega, rfl, by have h := (Below.refl w.heap.size w).alloc (Nat.le_refl _) (.cells #[] 3); rw [HN.out] at h; exact h, by have h := own_made HN.out; rw [HN.out] at h; exact h, Lib.hid (fun j _ h => by omega)⟩
    case round =>
      obtain ⟨rfl, rfl, i, hi, rfl, hb, hown, hso⟩ := hrel
      have hNle : N ≤ wr.heap.size := by have := hb.size; rw [HN.out] at this; exact this
      by_cases hlt : i < s.size
      · have hlt' : i < s.data.toList.length := by rw [Hsl.out]; exact hlt
        have hget : s.data.toList[i] = s[i] := rfl
        have hmt := Word.map_take hlt'
        rw [hget] at hmt
        have Hmt := Lib.hid hmt; have Hget := Lib.hid hget; clear hmt hget
        have hb256 := UInt8.toNat_lt s[i]
        have hc1 : i + 1 ≤ maxLen := by unfold maxLen; omega
        have hc2 : (i + 1) * 8 ≤ 140737488355328 := by omega
        obtain ⟨av, cv, rfl⟩ := own_len hown
        generalize hby : s[i] = by0 at *
        have Hby := Lib.hid hby
        have Hget' : Hid (s.data.toList[i]'hlt' = by0) := Lib.hid (by rw [← hby]; rfl)
        by_cases hl1 : 97 ≤ (by0.toNat : Int) ∧ (by0.toNat : Int) ≤ 104
        · obtain ⟨h1, h2⟩ := hl1
          have Hv := Lib.hid (Word.letterOf_low h1 h2)
          go_wp2_with (at_builtin; refine append_one rfl (.tmp 28) (.tmp 35) 32 rfl N 3 i0 _ 8 Tryd.underlying32 Hi0.out Hz0.out Hz1.out Hz2.out (by rfl) _ _ _ rfl hown (by rfl) _ rfl hc1 hc2 hNle ?_; intro v1 w1 hown1 hg1 _)
          go_roundw
          case rel =>
            refine ⟨rfl, rfl, i + 1, by omega, by go_num, Below.grown (hb.alloc hNle _) hg1 (by simp; omega) (fun k hk => (hown.lt k hk).1), ?_, Lib.hid (Word.sofar_step hso.out hlt' (by rw [Hget'.out, Hv.out]; omega))⟩
            rw [Hmt.out, ← intCells_snoc, Hv.out]; exact hown1
          case measure => simp [intOf]; omega
        · by_cases hl2 : 65 ≤ (by0.toNat : Int) ∧ (by0.toNat : Int) ≤ 72
          · obtain ⟨h1, h2⟩ := hl2
            have Hv := Lib.hid (Word.letterOf_up h1 h2)
            clear hl1
            have h3 : ¬ (97 ≤ (by0.toNat : Int)) := by omega
            go_wp2_with (at_builtin; refine append_one rfl (.tmp 48) (.tmp 56) 32 rfl N 3 i0 _ 8 Tryd.underlying32 Hi0.out Hz0.out Hz1.out Hz2.out (by rfl) _ _ _ rfl hown (by rfl) _ rfl hc1 hc2 hNle ?_; intro v1 w1 hown1 hg1 _)
            go_roundw
            case rel =>
              refine ⟨rfl, rfl, i + 1, by omega, by go_num, Below.grown (hb.alloc hNle _) hg1 (by simp; omega) (fun k hk => (hown.lt k hk).1), ?_, Lib.hid (Word.sofar_step hso.out hlt' (by rw [Hget'.out, Hv.out]; omega))⟩
              rw [Hmt.out, ← intCells_snoc, Hv.out]; exact hown1
            case measure => simp [intOf]; omega
          · have Hno := Lib.hid (Word.not_parses H45.out hlt' (by rw [Hget'.out]; exact Word.letterOf_none hl1 hl2))
            rcases (show (by0.toNat : Int) < 65 ∨ (72 < (by0.toNat : Int) ∧ (by0.toNat : Int) < 97) ∨ 104 < (by0.toNat : Int) by omega) with h1 | ⟨h1, h2⟩ | h1
            all_goals clear hl1 hl2
            all_goals
              go_wp2
              go_ret2
              rw [Word.parsed_not H45.out Hno.out, decide_eq_false Hno.out]
              exact (own_gives (l := []) (by rw [HN.out]; exact own_mono (own_made (w := wr) rfl) hNle) rfl (by rw [HN.out]; exact hb.alloc hNle _)).with
      · obtain rfl : i = s.size := by omega
        have hall : Word.Sofar s.data.toList s.data.toList.length := by rw [Hsl.out]; exact hso.out
        have Hall := Lib.hid hall; clear hall
        rw [List.take_of_length_le (by rw [Hsl.out]; exact Nat.le_refl _)] at hown
        obtain ⟨av, cv, rfl⟩ := own_len hown
        have Hown := Lib.hid hown; clear hown
        by_cases hz : s.size = 0
        · have hz' : ((s.size : Int) == 0) = true := by rw [beq_iff_eq]; omega
          have Hno := Lib.hid (Word.not_parses_len H45.out (Or.inl (by rw [Hsl.out]; exact hz)))
          go_wp2
          go_ret2
          rw [Word.parsed_not H45.out Hno.out, decide_eq_false Hno.out]
          exact (own_gives (l := []) (by rw [HN.out]; exact own_mono (own_made (w := wr) rfl) hNle) rfl (by rw [HN.out]; exact hb.alloc hNle _)).with
        · have hz' : ((s.size : Int) == 0) = false := by rw [beq_eq_false_iff_ne]; omega
          by_cases h24 : s.size ≤ 24
          · have Hok := Lib.hid (Word.parses_of Hall.out (by rw [Hsl.out]; exact hz) (by rw [Hsl.out]; exact h24))
            have h24' : ¬ (24 < (s.size : Int)) := by omega
            go_wp2
            go_ret2
            rw [Word.parsed_of H45.out Hok.out, decide_eq_true Hok.out]
            exact (own_gives (n := s.size) (by rw [HN.out]; exact Hown.out) (by rw [List.length_map]; exact Hsl.out) (by rw [HN.out]; exact hb)).with
          · have Hno := Lib.hid (Word.not_parses_len H45.out (Or.inr (by rw [Hsl.out]; omega)))
            have h24' : 24 < (s.size : Int) := by omega
            go_wp2
            go_ret2
            rw [Word.parsed_not H45.out Hno.out, decide_eq_false Hno.out]
            exact (own_gives (l := []) (by rw [HN.out]; exact own_mono (own_made (w := wr) rfl) hNle) rfl (by rw [HN.out]; exact hb.alloc hNle _)).with
end Go.Proofs.YtfhecfggfccajaaDoor
