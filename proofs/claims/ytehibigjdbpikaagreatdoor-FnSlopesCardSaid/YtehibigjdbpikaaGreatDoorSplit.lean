/-
  Splitting at a byte: the library's pieces and the model's pieces are the same.
-/
import Derived.Test.YtehibigjdbpikaaGreatDoorBase
import Derived.Test.YtehibigjdbpikaaGreatDoorSlice
import Derived.Test.YtehibigjdbpikaaGreatDoorStrs
import Derived.Lib.Split
import Derived.Lib.SplitLaws
import Derived.Lib.IndexBytes
import Derived.Lib.Join
namespace Go.Proofs.YtehibigjdbpikaaGreatDoor
open Go.RowKit

namespace Split
/-- The pieces of l between the places of c. -/
def parts (c : UInt8) : List UInt8 → List (List UInt8)
  | [] => [[]]
  | b :: r => if b = c then [] :: parts c r else match parts c r with
    | p :: ps => (b :: p) :: ps
    | [] => [[b]]
theorem parts_none (c : UInt8) : ∀ l : List UInt8, c ∉ l → parts c l = [l]
  | [], _ => rfl
  | b :: r, h => by
    simp only [List.mem_cons, not_or] at h
    rw [parts, if_neg (fun e => h.1 e.symm), parts_none c r h.2]
theorem parts_hit (c : UInt8) (r : List UInt8) : ∀ p : List UInt8, c ∉ p → parts c (p ++ c :: r) = p :: parts c r
  | [], _ => by simp [parts]
  | b :: p, h => by
    simp only [List.mem_cons, not_or] at h
    rw [List.cons_append, parts, if_neg (fun e => h.1 e.symm), parts_hit c r p h.2]
theorem find (c : UInt8) : ∀ l : List UInt8, (c ∉ l ∧ Lib.indexByte l c = -1) ∨ ∃ p r, l = p ++ c :: r ∧ c ∉ p ∧ Lib.indexByte l c = p.length
  | [] => Or.inl ⟨by simp, rfl⟩
  | b :: l => by
    by_cases hb : b = c
    · subst hb
      exact Or.inr ⟨[], l, rfl, by simp, by simp [Lib.indexByte]⟩
    · have hb' : (b == c) = false := by simpa using hb
      rcases find c l with ⟨h1, h2⟩ | ⟨p, r, rfl, h1, h2⟩
      · exact Or.inl ⟨by simp only [List.mem_cons, not_or]; exact ⟨fun e => hb e.symm, h1⟩, by simp [Lib.indexByte, hb', h2]⟩
      · refine Or.inr ⟨b :: p, r, rfl, by simp only [List.mem_cons, not_or]; exact ⟨fun e => hb e.symm, h1⟩, ?_⟩
        have : ¬ Lib.indexByte (p ++ c :: r) c = -1 := by rw [h2]; omega
        simp only [List.cons_append, Lib.indexByte, hb', Bool.false_eq_true, if_false, beq_iff_eq, this, h2, List.length_cons]
        omega
theorem split_eq (c : UInt8) : ∀ (n : Nat) (l : List UInt8), l.length ≤ n → Lib.splitK [c] 0 (Lib.count l [c]) l = parts c l
  | n, l, hn => by
    rw [Lib.count_one]
    rcases find c l with ⟨h1, h2⟩ | ⟨p, r, rfl, h1, h2⟩
    · rw [List.count_eq_zero_of_not_mem h1, parts_none c l h1]; rfl
    · have hc : (p ++ c :: r).count c = r.count c + 1 := by
        rw [List.count_append, List.count_cons_self, List.count_eq_zero_of_not_mem h1]; omega
      have hne : ¬ (Lib.index (p ++ c :: r) [c] == -1) = true := by
        rw [Lib.index_one, h2, beq_iff_eq]; omega
      rw [hc, Lib.splitK, if_neg hne, parts_hit c r p h1, Lib.index_one, h2]
      have e1 : ((p.length : Int).toNat + 0) = p.length := by omega
      have e2 : ((p.length : Int).toNat + [c].length) = p.length + 1 := by simp
      rw [e1, e2, List.take_left]
      have e3 : (p ++ c :: r).drop (p.length + 1) = r := by
        rw [← List.drop_drop, List.drop_left]; rfl
      rw [e3]
      cases n with
      | zero => simp at hn
      | succ n =>
        have := split_eq c n r (by simp at hn; omega)
        rw [Lib.count_one] at this
        rw [this]
/-- What the library's pieces are, as bytes. -/
theorem lib_parts (s sep : ByteArray) (c : UInt8) (h : sep.data.toList = [c]) : (Lib.splitB sep 0 (Lib.countB s sep) s).map (·.data.toList) = parts c s.data.toList := by
  rw [Lib.splitB_data, h]
  have : Lib.countB s sep = Lib.count s.data.toList [c] := by
    unfold Lib.countB
    rw [h]
  rw [this, split_eq c _ _ (Nat.le_refl _)]
theorem ext_list {l m : List ByteArray} (h : l.map (·.data.toList) = m.map (·.data.toList)) : l = m := by
  induction l generalizing m with
  | nil => cases m with
    | nil => rfl
    | cons y m => cases h
  | cons x l ih => cases m with
    | nil => cases h
    | cons y m =>
      simp only [List.map_cons, List.cons.injEq] at h
      rw [ih h.2, show x = y from ByteArray.ext (Array.toList_inj.1 h.1)]
/-- The pieces as texts. -/
def pieces (c : UInt8) (s : ByteArray) : List ByteArray := (parts c s.data.toList).map fun l => ⟨l.toArray⟩
theorem pieces_data (c : UInt8) (s : ByteArray) : (pieces c s).map (·.data.toList) = parts c s.data.toList := by
  unfold pieces; rw [List.map_map]; simp [Function.comp_def]
theorem lib_pieces (s sep : ByteArray) (c : UInt8) (h : sep.data.toList = [c]) : Lib.splitB sep 0 (Lib.countB s sep) s = pieces c s :=
  ext_list (by rw [lib_parts s sep c h, pieces_data])
theorem parts_length (c : UInt8) : ∀ l : List UInt8, (parts c l).length ≤ l.length + 1
  | [] => Nat.le_refl _
  | b :: r => by
    have := parts_length c r
    rw [parts]
    split
    · simp; omega
    · cases h : parts c r with
      | nil => simp
      | cons p ps => rw [h] at this; simp at this ⊢; omega
theorem pieces_length (c : UInt8) (s : ByteArray) : (pieces c s).length ≤ s.size + 1 := by
  have := parts_length c s.data.toList
  simpa [pieces] using this
theorem parts_cons (c : UInt8) (l : List UInt8) : ∃ p ps, parts c l = p :: ps := by
  cases l with
  | nil => exact ⟨[], [], rfl⟩
  | cons b r =>
    rw [parts]
    split
    · exact ⟨_, _, rfl⟩
    · cases h : parts c r with
      | nil => exact ⟨_, _, rfl⟩
      | cons p ps => exact ⟨_, _, rfl⟩
theorem parts_join (c : UInt8) : ∀ l : List UInt8, Go.Lib.join (parts c l) [c] = l
  | [] => rfl
  | b :: r => by
    have ih := parts_join c r
    obtain ⟨p, ps, h⟩ := parts_cons c r
    rw [parts, h]
    rw [h, Go.Lib.join_cons] at ih
    by_cases hb : b = c
    · rw [if_pos hb, Go.Lib.join_cons, ← ih, hb]
      simp [Go.Lib.joinTail]
    · rw [if_neg hb]
      show Go.Lib.join ((b :: p) :: ps) [c] = b :: r
      rw [Go.Lib.join_cons, List.cons_append, ih]
theorem parts_free (c : UInt8) : ∀ (l p : List UInt8), p ∈ parts c l → c ∉ p
  | [], p, h => by
    simp only [parts, List.mem_singleton] at h
    subst h; simp
  | b :: r, p, h => by
    obtain ⟨q, qs, hq⟩ := parts_cons c r
    have ih := parts_free c r
    rw [parts, hq] at h
    rw [hq] at ih
    by_cases hb : b = c
    · rw [if_pos hb] at h
      rcases List.mem_cons.1 h with rfl | h
      · simp
      · exact ih p h
    · rw [if_neg hb] at h
      rcases List.mem_cons.1 (show p ∈ (b :: q) :: qs from h) with rfl | h
      · simp only [List.mem_cons, not_or]
        exact ⟨fun e => hb e.symm, ih q (List.mem_cons_self ..)⟩
      · exact ih p (List.mem_cons_of_mem _ h)
theorem pieces_join (c : UInt8) (s : ByteArray) : Go.Lib.join ((pieces c s).map (·.data.toList)) [c] = s.data.toList := by
  rw [pieces_data, parts_join]
theorem pieces_one (c : UInt8) (s q : ByteArray) (h : q ∈ pieces c s) : (pieces c q).length = 1 := by
  have hm : q.data.toList ∈ parts c s.data.toList := by
    rw [← pieces_data]; exact List.mem_map.2 ⟨q, h, rfl⟩
  unfold pieces
  rw [parts_none c _ (parts_free c _ _ hm)]; rfl
theorem pieces_small (c : UInt8) (s q : ByteArray) (h : q ∈ pieces c s) : q.size ≤ s.size := by
  have hm : q.data.toList ∈ parts c s.data.toList := by
    rw [← pieces_data]; exact List.mem_map.2 ⟨q, h, rfl⟩
  have key : ∀ (l p : List UInt8), p ∈ parts c l → p.length ≤ l.length := by
    intro l
    induction l with
    | nil => intro p hp; simp only [parts, List.mem_singleton] at hp; rw [hp]; exact Nat.le_refl _
    | cons b r ih =>
      intro p hp
      obtain ⟨x, xs, hx⟩ := parts_cons c r
      rw [parts, hx] at hp
      rw [hx] at ih
      by_cases hb : b = c
      · rw [if_pos hb] at hp
        rcases List.mem_cons.1 hp with rfl | hp
        · simp
        · have := ih p hp; simp; omega
      · rw [if_neg hb] at hp
        rcases List.mem_cons.1 (show p ∈ (b :: x) :: xs from hp) with rfl | hp
        · have := ih x (List.mem_cons_self ..); simp; omega
        · have := ih p (List.mem_cons_of_mem _ hp); simp; omega
  have := key _ _ hm
  simpa using this
/-- How far the model has come: the pieces so far, and where the next one begins. -/
def So (c : UInt8) (s : ByteArray) (i fr : Nat) (out : List ByteArray) : Prop :=
  fr ≤ i ∧ (∀ j, fr ≤ j → j < i → s.data.toList[j]? ≠ some c) ∧ out ++ pieces c (s.extract fr s.size) = pieces c s
theorem so_start (c : UInt8) (s : ByteArray) : So c s 0 0 [] := ⟨Nat.le_refl _, fun j _ h => by omega, by
  have e : s.extract 0 s.size = s := by apply ByteArray.ext; simp
  rw [e]; rfl⟩
theorem so_skip {c : UInt8} {s : ByteArray} {i fr : Nat} {out : List ByteArray} (h : So c s i fr out) (hi : s.data.toList[i]? ≠ some c) : So c s (i + 1) fr out :=
  ⟨by have := h.1; omega, fun j h1 h2 => by
    by_cases e : j = i
    · subst e; exact hi
    · exact h.2.1 j h1 (by omega), h.2.2⟩
theorem not_mem {c : UInt8} {s : ByteArray} {i fr : Nat} (h : ∀ j, fr ≤ j → j < i → s.data.toList[j]? ≠ some c) : c ∉ (s.data.toList.drop fr).take (i - fr) := by
  intro hm
  obtain ⟨j, hj⟩ := List.mem_iff_getElem?.1 hm
  rw [List.getElem?_take] at hj
  split at hj
  · rw [List.getElem?_drop] at hj
    exact h (fr + j) (by omega) (by omega) hj
  · cases hj
theorem pieces_cut {c : UInt8} {s : ByteArray} {i fr : Nat} (hfr : fr ≤ i) (h : ∀ j, fr ≤ j → j < i → s.data.toList[j]? ≠ some c) (hi : s.data.toList[i]? = some c) :
    pieces c (s.extract fr s.size) = s.extract fr i :: pieces c (s.extract (i + 1) s.size) := by
  apply ext_list
  rw [pieces_data, List.map_cons, pieces_data, Go.Lib.extract_to_end, Go.Lib.extract_to_end, Go.Lib.extract_data]
  obtain ⟨hlt, hc⟩ := List.getElem?_eq_some_iff.1 hi
  have e : s.data.toList.drop fr = (s.data.toList.drop fr).take (i - fr) ++ c :: s.data.toList.drop (i + 1) := by
    conv => lhs; rw [← List.take_append_drop (i - fr) (s.data.toList.drop fr)]
    rw [List.drop_drop, show fr + (i - fr) = i from by omega, List.drop_eq_getElem_cons hlt, hc]
  rw [e, parts_hit c _ _ (not_mem h)]
  congr 1
  rw [← e]
theorem so_hit {c : UInt8} {s : ByteArray} {i fr : Nat} {out : List ByteArray} (h : So c s i fr out) (hi : s.data.toList[i]? = some c) : So c s (i + 1) (i + 1) (out ++ [s.extract fr i]) :=
  ⟨Nat.le_refl _, fun j h1 h2 => by omega, by
    rw [List.append_assoc, List.singleton_append, ← pieces_cut h.1 h.2.1 hi, h.2.2]⟩
theorem so_end {c : UInt8} {s : ByteArray} {fr : Nat} {out : List ByteArray} (h : So c s s.size fr out) : out ++ [s.extract fr s.size] = pieces c s := by
  rw [← h.2.2]
  congr 1
  apply ext_list
  rw [pieces_data, List.map_cons, List.map_nil, Go.Lib.extract_to_end, parts_none]
  intro hm
  obtain ⟨j, hj⟩ := List.mem_iff_getElem?.1 hm
  rw [List.getElem?_drop] at hj
  have hlt := (List.getElem?_eq_some_iff.1 hj).1
  exact h.2.1 (fr + j) (by omega) (by simpa using hlt) hj
theorem so_len {c : UInt8} {s : ByteArray} {i fr : Nat} {out : List ByteArray} (h : So c s i fr out) : out.length ≤ s.size + 1 := by
  have h1 := congrArg List.length h.2.2
  have h2 := pieces_length c s
  simp only [List.length_append] at h1
  omega
end Split

set_option maxRecDepth 10000 in
set_option maxHeartbeats 400000 in
theorem spec_SplitByte (s : ByteArray) (c : UInt8) (w : World) (hs : s.size ≤ 1048576) :
    Calls Tryz.prog 71 #[.string s, .int .u8 c.toNat] w fun e w' => (∃ v, e = .returned v ∧ w'.ownsRow w.heap.size 9 1 v (Split.pieces c s).length (strCells (Split.pieces c s))) ∧ Below w.heap.size w w' := by
  obtain ⟨i0, hi0, hz0, hz1, hz2⟩ := info_parts info_str
  have Hinfo := Lib.hid (show Tryz.prog.info? 9 = some i0 ∧ i0.zero = some (.string ByteArray.empty) ∧ i0.size = 1 ∧ i0.bytes = 16 from ⟨hi0, hz0, hz1, hz2⟩)
  clear hi0 hz0 hz1 hz2
  generalize hN : w.heap.size = N
  have HN := Lib.hid hN
  go_enter Tryz.func71, Tryz.ntmps71
  go_wp2
  clear hN
  go_loopw [5, 6, 7] (fun ov fv iv wr => ∃ i fr : Nat, ∃ out, i ≤ s.size + 1 ∧ iv = .int .i64 i ∧ fv = .int .i64 fr ∧ Below N w wr ∧ wr.ownsRow N 9 1 ov (List.length out) (strCells out) ∧ fr ≤ i ∧
      Hid (if i ≤ s.size then Split.So c s i fr out else out = Split.pieces c s)) (fun _ _ iv _ => s.size + 1 - (intOf iv).toNat)
  case atStart => exact ⟨0, 0, [], by omega, rfl, rfl, by have h := (Below.refl w.heap.size w).alloc (Nat.le_refl _) (.cells #[] 9); rw [HN.out] at h; exact h, by
      have h := World.ownsRow_made (base := w.heap.size) (e := 9) (size := 1) w #[] 0 (Nat.le_refl _) (by unfold maxLen; omega) (by rfl)
      rw [HN.out] at h; exact h, Nat.le_refl _, Lib.hid (by rw [if_pos (Nat.zero_le _)]; exact Split.so_start c s)⟩
  case round =>
    obtain ⟨i, fr, out, hi, rfl, rfl, hb, hown, hfr, hso⟩ := hrel
    have hNle : N ≤ wr.heap.size := by have := hb.size; rw [HN.out] at this; exact this
    obtain ⟨hi0, hz0, hz1, hz2⟩ := Hinfo.out
    have Hi0 := Lib.hid hi0; have Hz0 := Lib.hid hz0; have Hz1 := Lib.hid hz1; have Hz2 := Lib.hid hz2
    clear hi0 hz0 hz1 hz2
    by_cases hlt : i ≤ s.size
    · have hso1 := hso.out
      rw [if_pos hlt] at hso1
      have hlen := Split.so_len hso1
      have Hso := Lib.hid hso1; clear hso1 hso
      have hc1 : out.length + 1 ≤ maxLen := by unfold maxLen; omega
      have hc2 : (out.length + 1) * 16 ≤ 140737488355328 := by omega
      by_cases hend : i = s.size
      · have he1 : ((i : Int) == (s.size : Int)) = true := by rw [beq_iff_eq]; omega
        have hfs : fr ≤ s.size := by omega
        have Hend := Lib.hid hend; clear hend
        go_wp2_with (at_builtin; refine append_one rfl (.tmp 26) (.tmp 31) 71 rfl N 9 i0 (.string ByteArray.empty) 16 Tryz.underlying71 Hi0.out Hz0.out Hz1.out Hz2.out rfl _ _ _ rfl hown rfl 1 rfl hc1 hc2 hNle ?_; intro v1 w1 hown1 hg1 _)
        go_roundw
        case rel =>
          refine ⟨i + 1, i + 1, out ++ [s.extract fr i], by omega, by go_num, by go_num, Below.grown (hb.alloc hNle _) hg1 (by simp; omega) (fun k hk => (hown.lt k hk).1), ?_, Nat.le_refl _, Lib.hid ?_⟩
          · rw [List.length_append, List.length_singleton, show strCells (out ++ [s.extract fr i]) = strCells out ++ [.string (s.extract fr i)] from by simp [strCells]]
            exact hown1
          · have e := Hend.out
            rw [if_neg (by omega)]
            have h := Hso.out
            rw [e] at h ⊢
            exact Split.so_end h
        case measure => simp [intOf]; omega
      · have hil : i < s.size := by omega
        have he1 : ((i : Int) == (s.size : Int)) = false := by rw [beq_eq_false_iff_ne]; omega
        have hget : s.data.toList[i]? = some s[i] := by rw [List.getElem?_eq_getElem (by simpa using hil)]; rfl
        clear hend
        by_cases hc : s[i] = c
        · have he2 : ((s[i].toNat : Int) == (c.toNat : Int)) = true := by rw [hc]; simp
          have Hs2 := Lib.hid (Split.so_hit Hso.out (by rw [hget, hc]))
          clear hget hc
          go_wp2_with (at_builtin; refine append_one rfl (.tmp 26) (.tmp 31) 71 rfl N 9 i0 (.string ByteArray.empty) 16 Tryz.underlying71 Hi0.out Hz0.out Hz1.out Hz2.out rfl _ _ _ rfl hown rfl 1 rfl hc1 hc2 hNle ?_; intro v1 w1 hown1 hg1 _)
          go_roundw
          case rel =>
            refine ⟨i + 1, i + 1, out ++ [s.extract fr i], by omega, by go_num, by go_num, Below.grown (hb.alloc hNle _) hg1 (by simp; omega) (fun k hk => (hown.lt k hk).1), ?_, Nat.le_refl _, Lib.hid ?_⟩
            · rw [List.length_append, List.length_singleton, show strCells (out ++ [s.extract fr i]) = strCells out ++ [.string (s.extract fr i)] from by simp [strCells]]
              exact hown1
            · rw [if_pos (by omega)]; exact Hs2.out
          case measure => simp [intOf]; omega
        · have he2 : ((s[i].toNat : Int) == (c.toNat : Int)) = false := by
            rw [beq_eq_false_iff_ne]; intro e; exact hc (UInt8.toNat_inj.1 (by omega))
          have Hs2 := Lib.hid (Split.so_skip Hso.out (by rw [hget]; intro e; injection e with e; exact hc e))
          clear hget hc
          go_wp2
          go_roundw
          case rel => exact ⟨i + 1, fr, out, by omega, by go_num, rfl, hb, hown, by omega, Lib.hid (by rw [if_pos (by omega)]; exact Hs2.out)⟩
          case measure => simp [intOf]; omega
    · have hout := hso.out
      rw [if_neg hlt] at hout
      have Hout := Lib.hid hout; clear hout hso
      go_wp2
      go_ret
      exact ⟨⟨_, rfl, by rw [← Hout.out]; exact hown⟩, hb⟩
end Go.Proofs.YtehibigjdbpikaaGreatDoor
