/- A line's tokens' texts, a blank behind each, are the same tokens again: plain Lean. -/
import Derived.Test.YtbpahdgkedfmdaaDoorLexTok
namespace Go.Proofs.YtbpahdgkedfmdaaDoor
open Go.Lib Go.RowKit

def textOf (toks : List Tok) : List UInt8 := toks.flatMap fun t => t.text ++ [32]
/-- The tokens where they come to lie. -/
def placed : List Tok → Nat → List Tok
  | [], _ => []
  | t :: ts, a => { t with at_ := a } :: placed ts (a + (chs t.text).length + 1)
/-- A token that a line can have. -/
def TokOk (t : Tok) : Prop := ∃ wd : List Ch, (∀ c ∈ wd, Good c) ∧ t.text = bytesOf wd ∧ wd ≠ [] ∧
  (((∀ c ∈ wd, isPart c.1 = true) ∧ wordE wd = 0 ∧ t = wordT wd t.at_) ∨ (∃ c, wd = [c] ∧ isPart c.1 = false ∧ c.1 ≠ 35 ∧ isSign c.1 = true ∧ t = ⟨3, c.2, 0, t.at_⟩))

theorem wordT_at (wd : List Ch) (a : Nat) : (wordT wd a).at_ = a := by unfold wordT; split <;> rfl
theorem wordT_text (wd : List Ch) (a : Nat) : (wordT wd a).text = bytesOf wd := by unfold wordT; split <;> rfl
theorem wordT_set (wd : List Ch) (a b : Nat) : { wordT wd a with at_ := b } = wordT wd b := by unfold wordT; split <;> rfl

theorem closeT_ok (wd : List Ch) (a : Nat) (acc : List Tok) (hg : ∀ c ∈ wd, Good c) (hp : ∀ c ∈ wd, isPart c.1 = true) (he : closeE wd = 0) (ha : ∀ t ∈ acc, TokOk t) : ∀ t ∈ closeT wd a acc, TokOk t := by
  unfold closeT
  unfold closeE at he
  by_cases hw : wd = []
  · rw [if_pos hw]; exact ha
  · rw [if_neg hw] at he ⊢
    intro t ht
    rcases List.mem_append.1 ht with h | h
    · exact ha t h
    · simp at h
      subst h
      exact ⟨wd, hg, wordT_text _ _, hw, .inl ⟨hp, he, by rw [wordT_at]⟩⟩

theorem sign_not (r : Nat) (h : isSign r = true) : isPart r = false ∧ r ≠ 35 := by
  rw [isSign_iff] at h
  refine ⟨?_, by omega⟩
  cases hp : isPart r
  · rfl
  · rw [isPart_iff] at hp; omega

theorem lexM_ok : ∀ (cs : List Ch) (a : Nat) (wd : List Ch) (acc : List Tok), (∀ c ∈ wd, Good c) → (∀ c ∈ wd, isPart c.1 = true) → (∀ c ∈ cs, Good c) → (∀ t ∈ acc, TokOk t) → ∀ t ∈ (lexM cs a wd acc).1, TokOk t
  | [], a, wd, acc, hg, hp, _, ha => by
    rw [lexM_end]
    by_cases he : closeE wd = 0
    · rw [if_neg (by simpa using he)]; exact closeT_ok wd a acc hg hp he ha
    · rw [if_pos he]; intro t ht; cases ht
  | c :: cs, a, wd, acc, hg, hp, hcs, ha => by
    have hgc := hcs c List.mem_cons_self
    have hcs' : ∀ d ∈ cs, Good d := fun d hd => hcs d (List.mem_cons_of_mem _ hd)
    cases hpc : isPart c.1
    · by_cases he : closeE wd = 0
      · rw [lexM_go c cs a wd acc hpc he]
        have hc := closeT_ok wd a acc hg hp he ha
        split
        · exact hc
        · split
          · refine lexM_ok cs _ [] _ (fun _ h => by cases h) (fun _ h => by cases h) hcs' ?_
            intro t ht
            rcases List.mem_append.1 ht with h | h
            · exact hc t h
            · simp at h
              subst h
              have hs : isSign c.1 = true := by assumption
              exact ⟨[c], fun d hd => by simp at hd; subst hd; exact hgc, by simp [bytesOf], by simp, .inr ⟨c, rfl, hpc, (sign_not _ hs).2, hs, rfl⟩⟩
          · split
            · exact lexM_ok cs _ [] _ (fun _ h => by cases h) (fun _ h => by cases h) hcs' hc
            · intro t ht; cases ht
      · rw [lexM_err c cs a wd acc hpc he]; intro t ht; cases ht
    · rw [lexM_part c cs a wd acc hpc]
      refine lexM_ok cs _ _ _ (fun d hd => ?_) (fun d hd => ?_) hcs' ha
      · rcases List.mem_append.1 hd with h | h
        · exact hg d h
        · simp at h; subst h; exact hgc
      · rcases List.mem_append.1 hd with h | h
        · exact hp d h
        · simp at h; subst h; exact hpc

/-! ### how long -/
def tlen (toks : List Tok) : Nat := (toks.flatMap (·.text)).length
theorem tlen_append (a b : List Tok) : tlen (a ++ b) = tlen a + tlen b := by simp [tlen]
theorem tlen_one (t : Tok) : tlen [t] = t.text.length := by simp [tlen]
theorem closeT_len (wd : List Ch) (a : Nat) (acc : List Tok) : tlen (closeT wd a acc) ≤ tlen acc + (bytesOf wd).length := by
  unfold closeT
  split
  · omega
  · rw [tlen_append, tlen_one, wordT_text]; exact Nat.le_refl _
theorem lexM_len : ∀ (cs : List Ch) (a : Nat) (wd : List Ch) (acc : List Tok), tlen (lexM cs a wd acc).1 ≤ tlen acc + (bytesOf wd).length + (bytesOf cs).length
  | [], a, wd, acc => by
    rw [lexM_end]
    split
    · simp [tlen]
    · have := closeT_len wd a acc
      simp only [bytesOf, List.flatMap_nil, List.length_nil] at this ⊢
      exact Nat.le_trans this (by omega)
  | c :: cs, a, wd, acc => by
    have hb : (bytesOf (c :: cs)).length = c.2.length + (bytesOf cs).length := by simp [bytesOf]
    have h0 : (bytesOf ([] : List Ch)).length = 0 := rfl
    have hc := closeT_len wd a acc
    cases hpc : isPart c.1
    · by_cases he : closeE wd = 0
      · rw [lexM_go c cs a wd acc hpc he, hb]
        split
        · show tlen (closeT wd a acc) ≤ _; omega
        · split
          · have := lexM_len cs (a + 1) [] (closeT wd a acc ++ [⟨3, c.2, 0, a⟩])
            rw [tlen_append, tlen_one] at this
            have e : (⟨3, c.2, 0, a⟩ : Tok).text.length = c.2.length := rfl
            omega
          · split
            · have := lexM_len cs (a + 1) [] (closeT wd a acc)
              omega
            · show tlen [] ≤ _; simp [tlen]
      · rw [lexM_err c cs a wd acc hpc he]; show tlen [] ≤ _; simp [tlen]
    · rw [lexM_part c cs a wd acc hpc, hb]
      have := lexM_len cs (a + 1) (wd ++ [c]) acc
      have e : (bytesOf (wd ++ [c])).length = (bytesOf wd).length + c.2.length := by simp [bytesOf]
      omega
theorem ok_pos (t : Tok) (h : TokOk t) : 1 ≤ t.text.length ∧ validD t.text = true := by
  obtain ⟨wd, hg, ht, hw, _⟩ := h
  rw [ht]
  refine ⟨?_, valid_flat0 wd hg⟩
  cases wd with
  | nil => exact absurd rfl hw
  | cons c t =>
    have := List.length_pos_iff.2 (hg c List.mem_cons_self).2.2
    simp [bytesOf]; omega
theorem text_len : ∀ (toks : List Tok), (∀ t ∈ toks, TokOk t) → (textOf toks).length ≤ 2 * tlen toks
  | [], _ => by simp [textOf]
  | t :: ts, h => by
    have ih := text_len ts fun x hx => h x (List.mem_cons_of_mem _ hx)
    have hp := (ok_pos t (h t List.mem_cons_self)).1
    simp only [textOf, tlen, List.flatMap_cons, List.length_append, List.length_cons, List.length_nil] at ih ⊢
    omega

/-! ### again -/
theorem lexM_parts : ∀ (wd : List Ch) (cs : List Ch) (a : Nat) (wd0 : List Ch) (acc : List Tok), (∀ c ∈ wd, isPart c.1 = true) → lexM (wd ++ cs) a wd0 acc = lexM cs (a + wd.length) (wd0 ++ wd) acc
  | [], cs, a, wd0, acc, _ => by simp
  | c :: wd, cs, a, wd0, acc, h => by
    rw [List.cons_append, lexM_part c _ _ _ _ (h c List.mem_cons_self), lexM_parts wd cs _ _ _ fun d hd => h d (List.mem_cons_of_mem _ hd)]
    have e : a + (c :: wd).length = a + 1 + wd.length := by simp; omega
    rw [e]
    simp
theorem lexM_blank (cs : List Ch) (a : Nat) (wd : List Ch) (acc : List Tok) (he : closeE wd = 0) : lexM ((32, [32]) :: cs) a wd acc = lexM cs (a + 1) [] (closeT wd a acc) := by
  rw [lexM_go (32, [32]) cs a wd acc rfl he]
  rfl
theorem lexM_texts : ∀ (toks : List Tok) (a : Nat) (acc : List Tok), (∀ t ∈ toks, TokOk t) → lexM (chs (textOf toks)) a [] acc = (acc ++ placed toks a, 0, 0)
  | [], a, acc, _ => by
    show lexM [] a [] acc = _
    rw [lexM_end]
    simp [closeE, closeT, placed]
  | t :: ts, a, acc, h => by
    obtain ⟨wd, hg, ht, hw, hk⟩ := h t List.mem_cons_self
    have e : textOf (t :: ts) = wd.flatMap (·.2) ++ (32 :: textOf ts) := by
      have e2 : t.text = wd.flatMap (·.2) := ht
      simp [textOf, e2]
    have hl : (chs t.text).length = wd.length := by rw [ht]; show (chs (wd.flatMap (·.2))).length = _; rw [chs_flat0 wd hg]
    rw [e, chs_flat wd hg, chs_ascii 32 _ (by decide)]
    have e32 : (((32 : UInt8).toNat, [(32 : UInt8)]) : Ch) = (32, [32]) := rfl
    rw [e32]
    have ih := fun acc => lexM_texts ts (a + wd.length + 1) acc fun x hx => h x (List.mem_cons_of_mem _ hx)
    rcases hk with ⟨hp, hE, hT⟩ | ⟨c, rfl, hpc, h35, hs, hT⟩
    · have hce : closeE wd = 0 := by unfold closeE; rw [if_neg hw]; exact hE
      rw [lexM_parts wd _ a [] acc hp, List.nil_append, lexM_blank _ _ _ _ hce, ih]
      unfold closeT
      rw [if_neg hw, Nat.add_sub_cancel]
      show (acc ++ [wordT wd a] ++ placed ts (a + wd.length + 1), 0, 0) = (acc ++ ({ t with at_ := a } :: placed ts (a + (chs t.text).length + 1)), 0, 0)
      rw [hl, hT, wordT_set]
      simp
    · rw [List.cons_append, List.nil_append, lexM_go c _ a [] acc hpc rfl, if_neg h35, if_pos hs, lexM_blank _ _ _ _ rfl]
      have ih' := ih (closeT [] (a + 1) (closeT [] a acc ++ [⟨3, c.2, 0, a⟩]))
      simp only [List.length_cons, List.length_nil, Nat.zero_add] at ih' hl
      rw [ih']
      show (acc ++ [⟨3, c.2, 0, a⟩] ++ placed ts (a + 1 + 1), 0, 0) = (acc ++ ({ t with at_ := a } :: placed ts (a + (chs t.text).length + 1)), 0, 0)
      rw [hl, hT]
      simp

theorem lexS_texts (l : List UInt8) (hl : l.length ≤ 1000) (he : (lexS l).2.1 = 0) : lexS (textOf (lexS l).1) = (placed (lexS l).1 0, 0, 0) ∧ (∀ t ∈ (lexS l).1, TokOk t) ∧ (textOf (lexS l).1).length ≤ 2000 := by
  have hd : lexS l = lexM (chs l) 0 [] [] ∧ validD l = true := by
    unfold lexS at he ⊢
    rw [if_neg (by omega)] at he ⊢
    by_cases hv : validD l = false
    · rw [if_pos hv] at he; simp at he
    · rw [if_neg hv]; exact ⟨rfl, by simpa using hv⟩
  have hok : ∀ t ∈ (lexS l).1, TokOk t := by
    rw [hd.1]
    exact lexM_ok (chs l) 0 [] [] (fun _ h => by cases h) (fun _ h => by cases h) (valid_good l hd.2) (fun _ h => by cases h)
  have hlen : tlen (lexS l).1 ≤ l.length := by
    rw [hd.1]
    have := lexM_len (chs l) 0 [] []
    have e : bytesOf (chs l) = l := chs_bytes l
    rw [e] at this
    simpa [tlen, bytesOf] using this
  have h2 := text_len _ hok
  refine ⟨?_, hok, by omega⟩
  generalize (lexS l).1 = toks at *
  have hv : validD (textOf toks) = true := by
    clear hlen h2 hd he
    induction toks with
    | nil => rfl
    | cons t ts ih =>
      obtain ⟨wd, hg, ht, _⟩ := hok t List.mem_cons_self
      have e : textOf (t :: ts) = wd.flatMap (·.2) ++ (32 :: textOf ts) := by
        have e2 : t.text = wd.flatMap (·.2) := ht
        simp [textOf, e2]
      rw [e, valid_flat wd hg, validD_cons 32 _ (by decide)]
      exact ih fun x hx => hok x (List.mem_cons_of_mem _ hx)
  unfold lexS
  rw [if_neg (by omega), hv, if_neg (by simp), lexM_texts toks 0 [] hok]
  simp

/-! ### cells -/
theorem toksCells_get : ∀ (toks : List Tok) (k : Nat) (hk : k < toks.length) (j : Nat), j < 4 → (toksCells toks)[k * 4 + j]? = (tokCells toks[k])[j]?
  | t :: ts, 0, _, j, hj => by
    show (tokCells t ++ toksCells ts)[0 * 4 + j]? = _
    rw [List.getElem?_append_left (by simp [tokCells]; omega), Nat.zero_mul, Nat.zero_add]
    rfl
  | t :: ts, k + 1, hk, j, hj => by
    show (tokCells t ++ toksCells ts)[(k + 1) * 4 + j]? = _
    rw [List.getElem?_append_right (by simp [tokCells]; omega)]
    have e : (k + 1) * 4 + j - (tokCells t).length = k * 4 + j := by simp [tokCells]; omega
    rw [e, toksCells_get ts k (by simpa using hk) j hj]
    rfl
/-- What a slice that owns tokens looks like, and what its cells hold. -/
theorem own_form {w : World} {base : Nat} {v : Value} {toks : List Tok} (h : w.ownsRow base 32 4 v toks.length (toksCells toks)) :
    ∃ ao cap, v = .slice ao toks.length cap ∧ toks.length ≤ cap ∧ ∀ k (hk : k < toks.length), ∃ g, ao = some ⟨g, 0, none⟩ ∧ g < w.heap.size ∧
      w.cell? ⟨g, k * 4, none⟩ = some (.int .i64 toks[k].kind) ∧ w.cell? ⟨g, k * 4 + 1, none⟩ = some (.string ⟨toks[k].text.toArray⟩) ∧ w.cell? ⟨g, k * 4 + 2, none⟩ = some (.int .u64 toks[k].word) ∧ w.cell? ⟨g, k * 4 + 3, none⟩ = some (.int .i64 toks[k].at_) := by
  rcases h.2 with ⟨h1, h2⟩ | ⟨g, cap, cur, h1, h2, h3, h4, _⟩
  · exact ⟨none, 0, by rw [h1, h2], by omega, fun k hk => by omega⟩
  · have hb : v.ownBlock = some g := by rw [h1]; rfl
    have hc : ∀ j u, (toksCells toks)[j]? = some u → w.cell? ⟨g, j, none⟩ = some u := fun j u hu => by
      have := h.cells hb j u hu
      have hadd : (⟨g, 0, none⟩ : Addr).add j = ⟨g, j, none⟩ := by unfold Addr.add; split <;> simp_all
      rwa [hadd] at this
    refine ⟨_, cap, h1, h4, fun k hk => ⟨g, rfl, ?_, ?_, ?_, ?_, ?_⟩⟩
    · exact (h.lt g hb).2
    · exact hc _ _ (toksCells_get toks k hk 0 (by omega))
    · exact hc _ _ (toksCells_get toks k hk 1 (by omega))
    · exact hc _ _ (toksCells_get toks k hk 2 (by omega))
    · exact hc _ _ (toksCells_get toks k hk 3 (by omega))
theorem placed_len : ∀ (toks : List Tok) (a : Nat), (placed toks a).length = toks.length
  | [], _ => rfl
  | _ :: ts, a => by simp [placed, placed_len ts]
/-- Where the token k comes to lie. -/
def posOf : List Tok → Nat → Nat
  | _, 0 => 0
  | [], _ + 1 => 0
  | t :: ts, k + 1 => (chs t.text).length + 1 + posOf ts k
theorem posOf_zero (toks : List Tok) : posOf toks 0 = 0 := by cases toks <;> rfl
theorem placed_get : ∀ (toks : List Tok) (a k : Nat) (h : k < toks.length) (h' : k < (placed toks a).length), (placed toks a)[k] = { toks[k] with at_ := a + posOf toks k }
  | t :: ts, a, 0, _, _ => rfl
  | t :: ts, a, k + 1, h, h' => by
    show (placed ts (a + (chs t.text).length + 1))[k]'_ = _
    rw [placed_get ts _ k (by simpa using h) (by simpa [placed] using h')]
    simp [posOf]
    omega
theorem posOf_succ : ∀ (toks : List Tok) (k : Nat) (h : k < toks.length), posOf toks (k + 1) = posOf toks k + ((chs toks[k].text).length + 1)
  | t :: ts, 0, _ => by simp [posOf]
  | t :: ts, k + 1, h => by
    show (chs t.text).length + 1 + posOf ts (k + 1) = (chs t.text).length + 1 + posOf ts k + _
    rw [posOf_succ ts k (by simpa using h)]
    simp
    omega
theorem posOf_le : ∀ (toks : List Tok) (k : Nat), posOf toks k ≤ (textOf toks).length
  | _, 0 => by simp [posOf]
  | [], _ + 1 => by simp [posOf]
  | t :: ts, k + 1 => by
    have := posOf_le ts k
    have h2 := chs_len_le t.text
    simp only [posOf, textOf, List.flatMap_cons, List.length_append, List.length_cons, List.length_nil] at this ⊢
    omega
theorem textOf_append (a b : List Tok) : textOf (a ++ b) = textOf a ++ textOf b := by simp only [textOf, List.flatMap_append]
theorem textOf_one (t : Tok) : textOf [t] = t.text ++ [32] := by simp only [textOf, List.flatMap_cons, List.flatMap_nil, List.append_nil]
theorem textOf_snoc (toks : List Tok) (k : Nat) (h : k < toks.length) : textOf (toks.take (k + 1)) = textOf (toks.take k) ++ (toks[k].text ++ [32]) := by
  rw [List.take_succ_eq_append_getElem h, textOf_append, textOf_one]
theorem textOf_len_ge : ∀ (toks : List Tok), toks.length ≤ (textOf toks).length
  | [] => by simp
  | t :: ts => by
    have := textOf_len_ge ts
    have e : textOf (t :: ts) = (t.text ++ [32]) ++ textOf ts := by simp only [textOf, List.flatMap_cons]
    rw [e, List.length_append, List.length_append, List.length_cons]
    simp
    omega
theorem textOf_take_le (toks : List Tok) (k : Nat) : (textOf (toks.take k)).length ≤ (textOf toks).length := by
  have := congrArg textOf (List.take_append_drop k toks)
  rw [textOf_append] at this
  have := congrArg List.length this
  rw [List.length_append] at this
  omega
end Go.Proofs.YtbpahdgkedfmdaaDoor
