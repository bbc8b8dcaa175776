/- Characters of a text with their bytes, over the model's own decoder: what layer 2 is counted in. Plain Lean. -/
import Derived.Lib.ValidLaws
import Derived.Lib.MapLaws
import Derived.Lib.RuneCount
namespace Go.Proofs.YtbpahdgkedfmdaaDoor
open Go.Lib

/-- A character: its number, and its bytes. -/
abbrev Ch := Nat × List UInt8

def chG : Nat → List UInt8 → List Ch
  | 0, _ => []
  | n + 1, l => if l = [] then [] else ((decodeL l).1, l.take (decodeL l).2) :: chG n (l.drop (decodeL l).2)
/-- The characters of a text, valid or not: a byte that begins no encoding is one, of the number 65533. -/
def chs (l : List UInt8) : List Ch := chG l.length l

theorem chG_nil : ∀ n, chG n [] = []
  | 0 => rfl
  | _ + 1 => by simp [chG]
theorem chG_fuel : ∀ (n m : Nat) (l : List UInt8), l.length ≤ n → l.length ≤ m → chG n l = chG m l
  | 0, m, l, hn, _ => by
    have : l = [] := List.eq_nil_of_length_eq_zero (by omega)
    subst this
    rw [chG_nil, chG_nil]
  | n + 1, 0, l, _, hm => by
    have : l = [] := List.eq_nil_of_length_eq_zero (by omega)
    subst this
    rw [chG_nil, chG_nil]
  | n + 1, m + 1, l, hn, hm => by
    unfold chG
    by_cases hne : l = []
    · simp [hne]
    · have hw := decodeL_width l
      have hl : 0 < l.length := List.length_pos_iff.2 hne
      rw [if_neg hne, if_neg hne, chG_fuel n m (l.drop (decodeL l).2) (by rw [List.length_drop]; omega) (by rw [List.length_drop]; omega)]
theorem chs_nil : chs [] = [] := rfl
theorem chs_step (l : List UInt8) (hne : l ≠ []) : chs l = ((decodeL l).1, l.take (decodeL l).2) :: chs (l.drop (decodeL l).2) := by
  have hl : 0 < l.length := List.length_pos_iff.2 hne
  have hw := decodeL_width l
  obtain ⟨n, hn⟩ : ∃ n, l.length = n + 1 := ⟨l.length - 1, by omega⟩
  unfold chs
  rw [hn]
  show (if l = [] then [] else _) = _
  rw [if_neg hne, chG_fuel n (l.drop (decodeL l).2).length _ (by rw [List.length_drop]; omega) (Nat.le_refl _)]

/-- By the characters, one behind the other. -/
theorem chs_ind (p : List UInt8 → Prop) (h0 : p []) (h1 : ∀ l, l ≠ [] → p (l.drop (decodeL l).2) → p l) : ∀ l, p l := by
  intro l
  generalize hn : l.length = n
  induction n using Nat.strongRecOn generalizing l with
  | _ n ih =>
    by_cases hne : l = []
    · subst hne; exact h0
    · have hl : 0 < l.length := List.length_pos_iff.2 hne
      have hw := decodeL_width l
      exact h1 l hne (ih _ (by rw [List.length_drop]; omega) _ rfl)

theorem chs_bytes (l : List UInt8) : (chs l).flatMap (·.2) = l := by
  refine chs_ind (fun l => (chs l).flatMap (·.2) = l) rfl (fun l hne ih => ?_) l
  rw [chs_step l hne, List.flatMap_cons, ih]
  exact List.take_append_drop _ _

/-- A character that is one: its bytes are read as it, whole. -/
def Good (c : Ch) : Prop := decodeL c.2 = (c.1, c.2.length) ∧ ¬ (c.1 = 65533 ∧ c.2.length = 1) ∧ c.2 ≠ []

theorem getD_append_lt (a t : List UInt8) (i : Nat) (h : i < a.length) : (a ++ t).getD i 0 = a.getD i 0 := by
  simp [List.getD, List.getElem?_append_left h]

theorem decodeL_good (l : List UInt8) (hne : l ≠ []) (hv : ¬ ((decodeL l).1 = 65533 ∧ (decodeL l).2 = 1)) (t : List UInt8) :
    decodeL (l.take (decodeL l).2 ++ t) = decodeL l := by
  have hl : 0 < l.length := List.length_pos_iff.2 hne
  have hle := decodeL_le l hne
  have htl : (l.take (decodeL l).2).length = (decodeL l).2 := by rw [List.length_take]; omega
  have hg : ∀ i, i < (decodeL l).2 → (l.take (decodeL l).2 ++ t).getD i 0 = l.getD i 0 := fun i hi => by
    rw [getD_append_lt _ _ _ (by omega), getD_takeU _ _ _ hi]
  have hlen : (l.take (decodeL l).2 ++ t).length = (decodeL l).2 + t.length := by rw [List.length_append, htl]
  generalize hk : l.take (decodeL l).2 ++ t = m at *
  have hN := decodeL_N l
  rcases decodeN_shape l.length (l.getD 0 0).toNat (l.getD 1 0).toNat (l.getD 2 0).toNat (l.getD 3 0).toNat with h | h | h | h | h
  · obtain ⟨h0, h1⟩ := h
    rw [h1] at hN
    rw [hN] at hg hlen ⊢
    rw [decodeL_N, hg 0 (by simp)]
    exact decodeN_ascii _ _ _ _ _ h0
  · obtain ⟨h0, h1, h2, h3, h4⟩ := h
    rw [h4] at hN
    rw [hN] at hg hlen ⊢
    simp only at hlen
    rw [decodeL_N, hg 0 (by simp), hg 1 (by simp), hlen]
    rcases decodeN_shape (2 + t.length) (l.getD 0 0).toNat (l.getD 1 0).toNat (m.getD 2 0).toNat (m.getD 3 0).toNat with g | g | g | g | g
    · omega
    · exact g.2.2.2.2
    · omega
    · omega
    · unfold decodeN
      rw [if_neg (by omega), if_pos (by omega), if_pos (by omega)]
  · obtain ⟨h0, h1, h2, h3, h4, h5, h6⟩ := h
    rw [h6] at hN
    rw [hN] at hg hlen ⊢
    simp only at hlen
    rw [decodeL_N, hg 0 (by simp), hg 1 (by simp), hg 2 (by simp), hlen]
    unfold decodeN
    have := (l.getD 0 0).toNat_lt
    rw [if_neg (by omega), if_neg (by omega), if_pos (by omega), if_pos (by omega)]
  · obtain ⟨h0, h1, h2, h3, h4, h5, h6, h7⟩ := h
    rw [h7] at hN
    rw [hN] at hg hlen ⊢
    simp only at hlen
    rw [decodeL_N, hg 0 (by simp), hg 1 (by simp), hg 2 (by simp), hg 3 (by simp), hlen]
    unfold decodeN
    rw [if_neg (by omega), if_neg (by omega), if_neg (by omega), if_pos (by omega), if_pos (by omega)]
  · rw [h] at hN
    rw [hN] at hv
    simp at hv

theorem good_of (l : List UInt8) (hne : l ≠ []) (hv : ¬ ((decodeL l).1 = 65533 ∧ (decodeL l).2 = 1)) : Good ((decodeL l).1, l.take (decodeL l).2) := by
  have hle := decodeL_le l hne
  have hw := decodeL_width l
  have htl : (l.take (decodeL l).2).length = (decodeL l).2 := by rw [List.length_take]; omega
  have h := decodeL_good l hne hv []
  rw [List.append_nil] at h
  refine ⟨?_, ?_, ?_⟩
  · rw [h, htl]
  · rw [htl]; exact hv
  · intro e
    have e' : l.take (decodeL l).2 = [] := e
    rw [e'] at htl
    simp at htl
    omega

theorem valid_good (l : List UInt8) : validD l = true → ∀ c ∈ chs l, Good c := by
  refine chs_ind (fun l => validD l = true → ∀ c ∈ chs l, Good c) (fun _ c hc => by simp [chs_nil] at hc) (fun l hne ih => ?_) l
  rw [validD_step l hne, chs_step l hne]
  intro hv c hc
  by_cases h : (decodeL l).1 = 65533 ∧ (decodeL l).2 = 1
  · rw [if_pos h] at hv; cases hv
  · rw [if_neg h] at hv
    rcases List.mem_cons.1 hc with rfl | hc
    · exact good_of l hne h
    · exact ih hv c hc

theorem invalid_bad (l : List UInt8) : validD l = false → ∃ c ∈ chs l, c.1 = 65533 := by
  refine chs_ind (fun l => validD l = false → ∃ c ∈ chs l, c.1 = 65533) (fun h => by cases h) (fun l hne ih => ?_) l
  rw [validD_step l hne, chs_step l hne]
  intro hv
  by_cases h : (decodeL l).1 = 65533 ∧ (decodeL l).2 = 1
  · exact ⟨_, List.mem_cons_self, h.1⟩
  · rw [if_neg h] at hv
    obtain ⟨c, hc, e⟩ := ih hv
    exact ⟨c, List.mem_cons_of_mem _ hc, e⟩

theorem decode_cons (c : Ch) (h : Good c) (t : List UInt8) : decodeL (c.2 ++ t) = (c.1, c.2.length) := by
  have := decodeL_good c.2 h.2.2 (by rw [h.1]; exact h.2.1) t
  rw [h.1] at this
  simp only [List.take_length] at this
  exact this

theorem chs_cons (c : Ch) (h : Good c) (t : List UInt8) : chs (c.2 ++ t) = c :: chs t := by
  have hne : c.2 ++ t ≠ [] := fun e => h.2.2 (List.append_eq_nil_iff.1 e).1
  rw [chs_step _ hne, decode_cons c h t]
  simp

theorem validD_consC (c : Ch) (h : Good c) (t : List UInt8) : validD (c.2 ++ t) = validD t := by
  have hne : c.2 ++ t ≠ [] := fun e => h.2.2 (List.append_eq_nil_iff.1 e).1
  rw [validD_step _ hne, decode_cons c h t, if_neg h.2.1]
  simp

/-- The bytes of characters are read as these. -/
theorem chs_flat : ∀ (cs : List Ch), (∀ c ∈ cs, Good c) → ∀ t, chs (cs.flatMap (·.2) ++ t) = cs ++ chs t
  | [], _, t => rfl
  | c :: cs, h, t => by
    rw [List.flatMap_cons, List.append_assoc, chs_cons c (h c List.mem_cons_self), chs_flat cs (fun d hd => h d (List.mem_cons_of_mem _ hd)) t, List.cons_append]
theorem valid_flat : ∀ (cs : List Ch), (∀ c ∈ cs, Good c) → ∀ t, validD (cs.flatMap (·.2) ++ t) = validD t
  | [], _, t => rfl
  | c :: cs, h, t => by
    rw [List.flatMap_cons, List.append_assoc, validD_consC c (h c List.mem_cons_self), valid_flat cs (fun d hd => h d (List.mem_cons_of_mem _ hd)) t]
theorem chs_flat0 (cs : List Ch) (h : ∀ c ∈ cs, Good c) : chs (cs.flatMap (·.2)) = cs := by
  have := chs_flat cs h []
  rwa [List.append_nil, chs_nil, List.append_nil] at this
theorem valid_flat0 (cs : List Ch) (h : ∀ c ∈ cs, Good c) : validD (cs.flatMap (·.2)) = true := by
  have := valid_flat cs h []
  rwa [List.append_nil, validD_nil] at this

theorem good_ascii (b : UInt8) (h : b.toNat < 128) : Good (b.toNat, [b]) :=
  ⟨by rw [decodeL_ascii b [] h]; rfl, fun e => by have := e.1; simp at this; omega, by simp⟩
theorem chs_ascii (b : UInt8) (t : List UInt8) (h : b.toNat < 128) : chs (b :: t) = (b.toNat, [b]) :: chs t := chs_cons _ (good_ascii b h) t

/-- A character below 128 is its one byte. -/
theorem low_char (l : List UInt8) (h : (decodeL l).1 < 128) : (decodeL l).2 = 1 ∧ (l.getD 0 0).toNat = (decodeL l).1 := by
  have hN := decodeL_N l
  rcases decodeN_shape l.length (l.getD 0 0).toNat (l.getD 1 0).toNat (l.getD 2 0).toNat (l.getD 3 0).toNat with g | g | g | g | g
  · rw [g.2] at hN; rw [hN]; exact ⟨rfl, rfl⟩
  · rw [g.2.2.2.2] at hN; rw [hN] at h; simp only at h; omega
  · rw [g.2.2.2.2.2.2] at hN; rw [hN] at h; simp only at h; omega
  · rw [g.2.2.2.2.2.2.2] at hN; rw [hN] at h; simp only at h; omega
  · rw [g] at hN; rw [hN] at h; simp only at h; omega
theorem good_low (c : Ch) (hg : Good c) (h : c.1 < 128) : ∃ b : UInt8, c.2 = [b] ∧ b.toNat = c.1 := by
  have hl := low_char c.2 (by rw [hg.1]; exact h)
  rw [hg.1] at hl
  match hc : c.2, hl with
  | [b], hl => exact ⟨b, rfl, by simpa [hc] using hl.2⟩
  | [], hl => simp at hl
  | a :: b :: t, hl => simp at hl

/-- Counted by the model's own decoder. -/
theorem runeFrom_len (s : ByteArray) : ∀ (fuel pos : Nat), s.size ≤ pos + fuel → runeCountFrom s fuel pos = (chs (s.data.toList.drop pos)).length
  | 0, pos, h => by
    rw [List.drop_eq_nil_of_le (by rw [← size_eq]; omega), chs_nil]; rfl
  | f + 1, pos, h => by
    unfold runeCountFrom
    by_cases hp : pos < s.size
    · have hne : s.data.toList.drop pos ≠ [] := fun e => by
        have := congrArg List.length e
        rw [List.length_drop, ← size_eq] at this
        simp at this; omega
      have hw := decodeL_width (s.data.toList.drop pos)
      rw [if_pos hp, chs_step _ hne, List.length_cons, List.drop_drop, decodeL_drop, ← runeFrom_len s f _ (by rw [decodeL_drop] at hw; omega)]
      omega
    · rw [if_neg hp, List.drop_eq_nil_of_le (by rw [← size_eq]; omega), chs_nil]; rfl
theorem runeCount_chs (s : ByteArray) : runeCount s = (chs s.data.toList).length := by
  have := runeFrom_len s s.size 0 (by omega)
  simpa [runeCount] using this

theorem chs_len_le (l : List UInt8) : (chs l).length ≤ l.length := by
  refine chs_ind (fun l => (chs l).length ≤ l.length) (Nat.le_refl _) (fun l hne ih => ?_) l
  have hl : 0 < l.length := List.length_pos_iff.2 hne
  have hw := decodeL_width l
  rw [chs_step l hne, List.length_cons]
  rw [List.length_drop] at ih
  omega

/-- The number of each character is a rune. -/
theorem chs_le (l : List UInt8) : ∀ c ∈ chs l, c.1 ≤ 1114111 := by
  refine chs_ind (fun l => ∀ c ∈ chs l, c.1 ≤ 1114111) (fun c hc => by simp [chs_nil] at hc) (fun l hne ih => ?_) l
  rw [chs_step l hne]
  intro c hc
  rcases List.mem_cons.1 hc with rfl | hc
  · exact decodeL_rune l
  · exact ih c hc

end Go.Proofs.YtbpahdgkedfmdaaDoor
