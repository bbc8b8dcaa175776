/- What layer 2's two answers are, the program's and the document's, as plain Lean over characters; and that they are the same. -/
import Derived.Test.YtbpahdgkedfmdaaDoorLexBase
namespace Go.Proofs.YtbpahdgkedfmdaaDoor
open Go.Lib

/-! ### Numbers -/
def digv (base r : Nat) : Option Nat :=
  if 48 ≤ r ∧ r ≤ 57 then some (r - 48) else if base = 16 ∧ 97 ≤ r ∧ r ≤ 102 then some (r - 97 + 10) else none
/-- From a state on: the value up to here, whether a digit stood just ahead, whether it was too great. -/
def valGo (base : Nat) : List Nat → Nat → Bool → Bool → Nat × Nat
  | [], w, was, over => if was = false then (0, 61) else if over = true then (0, 11) else (w, 0)
  | r :: t, w, was, over => match digv base r with
    | some d => valGo base t ((w * base + d) % 18446744073709551616) true (over || decide (18446744073709551616 ≤ w * base + d))
    | none => if r = 95 ∧ was = true then valGo base t w false over else (0, 61)
def valS : List Nat → Nat × Nat
  | 48 :: 120 :: t => valGo 16 t 0 false false
  | c => valGo 10 c 0 false false
def valW (c : List Nat) : Nat := (valS c).1
def valE (c : List Nat) : Nat := (valS c).2

theorem valGo_some (base r d : Nat) (t : List Nat) (w : Nat) (was over : Bool) (h : digv base r = some d) :
    valGo base (r :: t) w was over = valGo base t ((w * base + d) % 18446744073709551616) true (over || decide (18446744073709551616 ≤ w * base + d)) := by
  simp only [valGo, h]
theorem valGo_none (base r : Nat) (t : List Nat) (w : Nat) (was over : Bool) (h : digv base r = none) :
    valGo base (r :: t) w was over = if r = 95 ∧ was = true then valGo base t w false over else (0, 61) := by
  simp only [valGo, h]
theorem valGo_nil (base w : Nat) (was over : Bool) : valGo base [] w was over = if was = false then (0, 61) else if over = true then (0, 11) else (w, 0) := rfl
theorem digv_lt (base r d : Nat) (h : digv base r = some d) : d < 16 := by
  unfold digv at h
  split at h
  · injection h; omega
  · split at h
    · injection h; omega
    · cases h
theorem valGo_bad (base : Nat) : ∀ (l : List Nat) (w : Nat) (was over : Bool), 65533 ∈ l → valGo base l w was over = (0, 61)
  | [], _, _, _, h => by cases h
  | r :: t, w, was, over, h => by
    rcases List.mem_cons.1 h with rfl | h
    · rw [valGo_none base 65533 t w was over (by unfold digv; rw [if_neg (by omega), if_neg (by omega)]), if_neg (by omega)]
    · cases hd : digv base r with
      | some d => rw [valGo_some base r d t w was over hd]; exact valGo_bad base t _ _ _ h
      | none =>
        rw [valGo_none base r t w was over hd]
        split
        · exact valGo_bad base t _ _ _ h
        · rfl
theorem valS_hex (t : List Nat) : valS (48 :: 120 :: t) = valGo 16 t 0 false false := rfl
theorem valS_dec (c : List Nat) (h : ∀ t, c ≠ 48 :: 120 :: t) : valS c = valGo 10 c 0 false false := by
  unfold valS
  split
  · exact absurd rfl (h _)
  · rfl
theorem valS_bad (l : List Nat) (h : 65533 ∈ l) : valS l = (0, 61) := by
  unfold valS
  split
  · refine valGo_bad 16 _ _ _ _ ?_
    simpa using h
  · exact valGo_bad 10 _ _ _ _ h
theorem valGo_lt (base : Nat) : ∀ (l : List Nat) (w : Nat) (was over : Bool), w < 18446744073709551616 → (valGo base l w was over).1 < 18446744073709551616
  | [], w, was, over, h => by rw [valGo_nil]; split <;> (try split) <;> simp <;> omega
  | r :: t, w, was, over, h => by
    cases hd : digv base r with
    | some d => rw [valGo_some base r d t w was over hd]; exact valGo_lt base t _ _ _ (Nat.mod_lt _ (by omega))
    | none =>
      rw [valGo_none base r t w was over hd]
      split
      · exact valGo_lt base t _ _ _ h
      · simp
theorem valW_lt (c : List Nat) : valW c < 18446744073709551616 := by
  unfold valW valS
  split <;> exact valGo_lt _ _ _ _ _ (by omega)
theorem valGo_err (base : Nat) : ∀ (l : List Nat) (w : Nat) (was over : Bool), (valGo base l w was over).2 = 0 ∨ (valGo base l w was over).2 = 11 ∨ (valGo base l w was over).2 = 61
  | [], w, was, over => by rw [valGo_nil]; split <;> (try split) <;> simp
  | r :: t, w, was, over => by
    cases hd : digv base r with
    | some d => rw [valGo_some base r d t w was over hd]; exact valGo_err base t _ _ _
    | none =>
      rw [valGo_none base r t w was over hd]
      split
      · exact valGo_err base t _ _ _
      · simp
theorem valE_cases (c : List Nat) : valE c = 0 ∨ valE c = 11 ∨ valE c = 61 := by
  unfold valE valS
  split <;> exact valGo_err _ _ _ _ _

/-! ### Characters -/
def isDig (r : Nat) : Bool := decide (48 ≤ r ∧ r ≤ 57)
def isLet (r : Nat) : Bool := decide ((65 ≤ r ∧ r ≤ 90) ∨ (97 ≤ r ∧ r ≤ 122) ∨ r = 95 ∨ 128 ≤ r)
def isPart (r : Nat) : Bool := isLet r || isDig r
def isSign (r : Nat) : Bool := [61, 58, 44, 46, 43, 45, 47, 42, 40, 41].contains r
def bytesOf (cs : List Ch) : List UInt8 := cs.flatMap (·.2)

theorem isSign_iff (r : Nat) : isSign r = true ↔ r = 61 ∨ r = 58 ∨ r = 44 ∨ r = 46 ∨ r = 43 ∨ r = 45 ∨ r = 47 ∨ r = 42 ∨ r = 40 ∨ r = 41 := by
  simp [isSign]
theorem isPart_iff (r : Nat) : isPart r = true ↔ (65 ≤ r ∧ r ≤ 90) ∨ (97 ≤ r ∧ r ≤ 122) ∨ r = 95 ∨ 128 ≤ r ∨ (48 ≤ r ∧ r ≤ 57) := by
  simp [isPart, isLet, isDig]; omega
theorem isDig_iff (r : Nat) : isDig r = true ↔ 48 ≤ r ∧ r ≤ 57 := by simp [isDig]
theorem isPart_of_dig (r : Nat) (h : isDig r = true) : isPart r = true := by simp [isPart, h]

/-! ### The program's way -/
structure Tok where
  kind : Nat
  text : List UInt8
  word : Nat
  at_ : Nat

/-- A word's error's number. -/
def wordE (wd : List Ch) : Nat :=
  if isDig (wd.headD (0, [])).1 = true then valE (wd.map (·.1)) else if 40 < wd.length then 11 else 0
def wordT (wd : List Ch) (from_ : Nat) : Tok :=
  if isDig (wd.headD (0, [])).1 = true then ⟨2, bytesOf wd, valW (wd.map (·.1)), from_⟩ else ⟨1, bytesOf wd, 0, from_⟩
def closeE (wd : List Ch) : Nat := if wd = [] then 0 else wordE wd
def closeT (wd : List Ch) (at_ : Nat) (acc : List Tok) : List Tok := if wd = [] then acc else acc ++ [wordT wd (at_ - wd.length)]

def lexM : List Ch → Nat → List Ch → List Tok → List Tok × Nat × Nat
  | [], at_, wd, acc => if closeE wd ≠ 0 then ([], closeE wd, at_ - wd.length) else (closeT wd at_ acc, 0, 0)
  | c :: cs, at_, wd, acc =>
    if isPart c.1 = true then lexM cs (at_ + 1) (wd ++ [c]) acc
    else if closeE wd ≠ 0 then ([], closeE wd, at_ - wd.length)
    else if c.1 = 35 then (closeT wd at_ acc, 0, 0)
    else if isSign c.1 = true then lexM cs (at_ + 1) [] (closeT wd at_ acc ++ [⟨3, c.2, 0, at_⟩])
    else if c.1 = 32 ∨ c.1 = 9 then lexM cs (at_ + 1) [] (closeT wd at_ acc)
    else ([], 61, at_)
def lexS (l : List UInt8) : List Tok × Nat × Nat :=
  if 16384 < l.length then ([], 11, 0) else if validD l = false then ([], 60, 0) else lexM (chs l) 0 [] []
def lexToks (l : List UInt8) : List Tok := (lexS l).1
def lexErr (l : List UInt8) : Nat := (lexS l).2.1
def lexAt (l : List UInt8) : Nat := (lexS l).2.2

/-! ### The document's way -/
structure RTok where
  kind : Nat
  from_ : Nat
  to_ : Nat
  word : Nat

def takeP (cs : List Nat) : List Nat := cs.takeWhile isPart
/-- One token more, or a fault: of what stands at i. -/
def refG : Nat → List Nat → Nat → List RTok → List RTok × Nat × Nat
  | 0, _, _, acc => (acc, 0, 0)
  | _ + 1, [], _, acc => (acc, 0, 0)
  | n + 1, c :: cs, i, acc =>
    if c = 35 then (acc, 0, 0)
    else if c = 32 ∨ c = 9 then refG n cs (i + 1) acc
    else if isPart c = false then (if isSign c = true then refG n cs (i + 1) (acc ++ [⟨3, i, i + 1, 0⟩]) else ([], 61, i))
    else if isDig c = true then
      (if valE (takeP (c :: cs)) ≠ 0 then ([], valE (takeP (c :: cs)), i)
       else refG n ((c :: cs).drop (takeP (c :: cs)).length) (i + (takeP (c :: cs)).length) (acc ++ [⟨2, i, i + (takeP (c :: cs)).length, valW (takeP (c :: cs))⟩]))
    else (if 40 < (takeP (c :: cs)).length then ([], 11, i)
       else refG n ((c :: cs).drop (takeP (c :: cs)).length) (i + (takeP (c :: cs)).length) (acc ++ [⟨1, i, i + (takeP (c :: cs)).length, 0⟩]))

theorem refG_cons (n c : Nat) (cs : List Nat) (i : Nat) (acc : List RTok) : refG (n + 1) (c :: cs) i acc =
    if c = 35 then (acc, 0, 0)
    else if c = 32 ∨ c = 9 then refG n cs (i + 1) acc
    else if isPart c = false then (if isSign c = true then refG n cs (i + 1) (acc ++ [⟨3, i, i + 1, 0⟩]) else ([], 61, i))
    else if isDig c = true then
      (if valE (takeP (c :: cs)) ≠ 0 then ([], valE (takeP (c :: cs)), i)
       else refG n ((c :: cs).drop (takeP (c :: cs)).length) (i + (takeP (c :: cs)).length) (acc ++ [⟨2, i, i + (takeP (c :: cs)).length, valW (takeP (c :: cs))⟩]))
    else (if 40 < (takeP (c :: cs)).length then ([], 11, i)
       else refG n ((c :: cs).drop (takeP (c :: cs)).length) (i + (takeP (c :: cs)).length) (acc ++ [⟨1, i, i + (takeP (c :: cs)).length, 0⟩])) := rfl
theorem refG_nil (n i : Nat) (acc : List RTok) : refG n [] i acc = (acc, 0, 0) := by cases n <;> rfl

/-- One token of the program, one of the document. -/
def Alike (t : Tok) (r : RTok) : Prop := t.kind = r.kind ∧ t.at_ = r.from_ ∧ t.word = r.word ∧ (validD t.text = true ∧ (chs t.text).length = r.to_ - r.from_)
def AlikeAll : List Tok → List RTok → Prop
  | [], [] => True
  | t :: ts, r :: rs => Alike t r ∧ AlikeAll ts rs
  | _, _ => False
theorem alikeAll_append : ∀ {ts : List Tok} {rs : List RTok} {t : Tok} {r : RTok}, AlikeAll ts rs → Alike t r → AlikeAll (ts ++ [t]) (rs ++ [r])
  | [], [], _, _, _, h => ⟨h, trivial⟩
  | _ :: _, _ :: _, _, _, hs, h => ⟨hs.1, alikeAll_append hs.2 h⟩
  | [], _ :: _, _, _, hs, _ => hs.elim
  | _ :: _, [], _, _, hs, _ => hs.elim
theorem alikeAll_len : ∀ {ts : List Tok} {rs : List RTok}, AlikeAll ts rs → ts.length = rs.length
  | [], [], _ => rfl
  | _ :: _, _ :: _, h => by simp [alikeAll_len h.2]
  | [], _ :: _, h => h.elim
  | _ :: _, [], h => h.elim
theorem alikeAll_get : ∀ {ts : List Tok} {rs : List RTok}, AlikeAll ts rs → ∀ i (h : i < ts.length) (h' : i < rs.length), Alike ts[i] rs[i]
  | [], [], _, i, h, _ => absurd h (by simp)
  | _ :: _, _ :: _, h, 0, _, _ => h.1
  | _ :: _, _ :: _, h, i + 1, h1, h2 => alikeAll_get h.2 i (by simpa using h1) (by simpa using h2)
  | [], _ :: _, h, _, _, _ => h.elim
  | _ :: _, [], h, _, _, _ => h.elim

def Same (a : List Tok × Nat × Nat) (b : List RTok × Nat × Nat) : Prop := AlikeAll a.1 b.1 ∧ a.2 = b.2

theorem takeP_word (wd cs : List Nat) (h : ∀ c ∈ wd, isPart c = true) (hc : ∀ c, cs.head? = some c → isPart c = false) : takeP (wd ++ cs) = wd := by
  unfold takeP
  rw [List.takeWhile_append_of_pos h]
  cases cs with
  | nil => simp
  | cons c t =>
    have := hc c rfl
    rw [List.takeWhile_cons, this]
    simp

/-- What the document says where a word stands: all of it is one token, or a fault. -/
theorem refG_word (n : Nat) (wd : List Ch) (cs : List Nat) (i : Nat) (racc : List RTok) (hne : wd ≠ []) (hp : ∀ c ∈ wd, isPart c.1 = true) (hc : ∀ c, cs.head? = some c → isPart c = false) :
    refG (n + 1) (wd.map (·.1) ++ cs) i racc = if wordE wd ≠ 0 then ([], wordE wd, i) else refG n cs (i + wd.length) (racc ++ [⟨(wordT wd i).kind, i, i + wd.length, (wordT wd i).word⟩]) := by
  have ht : takeP (wd.map (·.1) ++ cs) = wd.map (·.1) := takeP_word _ _ (fun c h => by obtain ⟨d, hd, rfl⟩ := List.mem_map.1 h; exact hp d hd) hc
  cases wd with
  | nil => exact absurd rfl hne
  | cons c t =>
    have hpc := hp c List.mem_cons_self
    have hx : c.1 ≠ 35 ∧ ¬ (c.1 = 32 ∨ c.1 = 9) := by rw [isPart_iff] at hpc; omega
    have ht' : takeP (c.1 :: (t.map (·.1) ++ cs)) = c.1 :: t.map (·.1) := by simpa using ht
    have hd : (c.1 :: (t.map (·.1) ++ cs)).drop (c.1 :: t.map (·.1)).length = cs := by simp
    have hl : (c.1 :: t.map (·.1)).length = (c :: t).length := by simp
    show refG (n + 1) (c.1 :: (t.map (·.1) ++ cs)) i racc = _
    rw [refG_cons, if_neg hx.1, if_neg hx.2, if_neg (by rw [hpc]; simp), ht', hd, hl]
    unfold wordE wordT
    simp only [List.headD_cons, List.map_cons]
    by_cases hdg : isDig c.1 = true
    · rw [if_pos hdg, if_pos hdg, if_pos hdg]
    · rw [if_neg hdg, if_neg hdg, if_neg hdg]
      by_cases h40 : 40 < (c :: t).length
      · rw [if_pos h40, if_pos h40, if_pos (by simp)]
      · rw [if_neg h40, if_neg h40, if_neg (by simp)]

theorem alike_word (wd : List Ch) (i : Nat) (hg : ∀ c ∈ wd, Good c) : Alike (wordT wd i) ⟨(wordT wd i).kind, i, i + wd.length, (wordT wd i).word⟩ := by
  have h1 : (wordT wd i).text = bytesOf wd := by unfold wordT; split <;> rfl
  have h2 : (wordT wd i).at_ = i := by unfold wordT; split <;> rfl
  refine ⟨rfl, h2, rfl, ?_⟩
  rw [h1]
  unfold bytesOf
  rw [chs_flat0 wd hg, valid_flat0 wd hg]
  exact ⟨rfl, by show wd.length = i + wd.length - i; omega⟩

/-- THE PROGRAM's WAY IS THE DOCUMENT's. -/
theorem lexM_refG : ∀ (cs : List Ch) (n i : Nat) (wd : List Ch) (acc : List Tok) (racc : List RTok), (∀ c ∈ wd, Good c) → (∀ c ∈ wd, isPart c.1 = true) → (∀ c ∈ cs, Good c) → AlikeAll acc racc →
    wd.length + cs.length ≤ n → Same (lexM cs (i + wd.length) wd acc) (refG n ((wd ++ cs).map (·.1)) i racc)
  | [], n, i, wd, acc, racc, hg, hp, _, ha, hn => by
    rw [List.append_nil]
    unfold lexM closeE closeT
    by_cases hw : wd = []
    · subst hw
      rw [if_pos rfl, if_neg (by simp), if_pos rfl]
      show Same _ (refG n [] i racc)
      rw [refG_nil]
      exact ⟨ha, rfl⟩
    · have hl : 0 < wd.length := List.length_pos_iff.2 hw
      obtain ⟨m, rfl⟩ : ∃ m, n = m + 1 := ⟨n - 1, by omega⟩
      have := refG_word m wd [] i racc hw hp (fun c h => by cases h)
      rw [List.append_nil] at this
      rw [this, if_neg hw, if_neg hw, Nat.add_sub_cancel]
      by_cases he : wordE wd ≠ 0
      · rw [if_pos he, if_pos he]; exact ⟨trivial, rfl⟩
      · rw [if_neg he, if_neg he, refG_nil]
        exact ⟨alikeAll_append ha (alike_word wd i hg), rfl⟩
  | c :: cs, n, i, wd, acc, racc, hg, hp, hcs, ha, hn => by
    have hgc := hcs c List.mem_cons_self
    unfold lexM
    by_cases hpc : isPart c.1 = true
    · rw [if_pos hpc]
      have ih := lexM_refG cs n i (wd ++ [c]) acc racc (fun d hd => by rcases List.mem_append.1 hd with h | h; exact hg d h; simp at h; subst h; exact hgc)
        (fun d hd => by rcases List.mem_append.1 hd with h | h; exact hp d h; simp at h; subst h; exact hpc) (fun d hd => hcs d (List.mem_cons_of_mem _ hd)) ha (by simp at hn ⊢; omega)
      simpa [Nat.add_assoc] using ih
    · rw [if_neg hpc]
      have hpf : isPart c.1 = false := by simpa using hpc
      -- the document's, behind the word
      have key : ∀ (m j : Nat) (acc' : List Tok) (racc' : List RTok), AlikeAll acc' racc' → cs.length + 1 ≤ m →
          Same (if c.1 = 35 then (acc', 0, 0) else if isSign c.1 = true then lexM cs (j + 1) [] (acc' ++ [⟨3, c.2, 0, j⟩]) else if c.1 = 32 ∨ c.1 = 9 then lexM cs (j + 1) [] acc' else ([], 61, j))
            (refG m (c.1 :: cs.map (·.1)) j racc') := by
        intro m j acc' racc' ha' hm
        obtain ⟨k, rfl⟩ : ∃ k, m = k + 1 := ⟨m - 1, by omega⟩
        unfold refG
        by_cases h35 : c.1 = 35
        · rw [if_pos h35, if_pos h35]; exact ⟨ha', rfl⟩
        · rw [if_neg h35, if_neg h35]
          by_cases hs : isSign c.1 = true
          · have hb : ¬ (c.1 = 32 ∨ c.1 = 9) := by rw [isSign_iff] at hs; omega
            rw [if_pos hs, if_neg hb, if_pos hpf, if_pos hs]
            have hal : Alike ⟨3, c.2, 0, j⟩ ⟨3, j, j + 1, 0⟩ := by
              have h1 := chs_flat0 [c] (fun d hd => by simp at hd; subst hd; exact hgc)
              have h2 := valid_flat0 [c] (fun d hd => by simp at hd; subst hd; exact hgc)
              simp only [List.flatMap_cons, List.flatMap_nil, List.append_nil] at h1 h2
              refine ⟨rfl, rfl, rfl, h2, ?_⟩
              show (chs c.2).length = j + 1 - j
              rw [h1]; simp
            exact lexM_refG cs k (j + 1) [] _ _ (fun _ h => by cases h) (fun _ h => by cases h) (fun d hd => hcs d (List.mem_cons_of_mem _ hd)) (alikeAll_append ha' hal) (by simp; omega)
          · rw [if_neg hs]
            by_cases hb : c.1 = 32 ∨ c.1 = 9
            · rw [if_pos hb, if_pos hb]
              exact lexM_refG cs k (j + 1) [] _ _ (fun _ h => by cases h) (fun _ h => by cases h) (fun d hd => hcs d (List.mem_cons_of_mem _ hd)) ha' (by simp; omega)
            · rw [if_neg hb, if_neg hb, if_pos hpf, if_neg hs]; exact ⟨trivial, rfl⟩
      unfold closeE closeT
      by_cases hw : wd = []
      · subst hw
        rw [if_pos rfl, if_neg (by simp), if_pos rfl]
        exact key n i acc racc ha (by simp at hn; omega)
      · have hl : 0 < wd.length := List.length_pos_iff.2 hw
        obtain ⟨m, rfl⟩ : ∃ m, n = m + 1 := ⟨n - 1, by simp at hn; omega⟩
        have hr := refG_word m wd (c.1 :: cs.map (·.1)) i racc hw hp (fun d h => by simp at h; subst h; exact hpf)
        rw [List.map_append, List.map_cons, hr, if_neg hw, if_neg hw, Nat.add_sub_cancel]
        by_cases he : wordE wd ≠ 0
        · rw [if_pos he, if_pos he]; exact ⟨trivial, rfl⟩
        · rw [if_neg he, if_neg he]
          exact key m (i + wd.length) _ _ (alikeAll_append ha (alike_word wd i hg)) (by simp at hn; omega)

def refS (l : List UInt8) : List RTok × Nat × Nat :=
  if 16384 < l.length then ([], 11, 0) else if validD l = false then ([], 60, 0) else refG (chs l).length ((chs l).map (·.1)) 0 []
theorem lexS_refS (l : List UInt8) : Same (lexS l) (refS l) := by
  unfold lexS refS
  by_cases h1 : 16384 < l.length
  · rw [if_pos h1, if_pos h1]; exact ⟨trivial, rfl⟩
  · rw [if_neg h1, if_neg h1]
    by_cases h2 : validD l = false
    · rw [if_pos h2, if_pos h2]; exact ⟨trivial, rfl⟩
    · rw [if_neg h2, if_neg h2]
      have := lexM_refG (chs l) (chs l).length 0 [] [] [] (fun _ h => by cases h) (fun _ h => by cases h) (valid_good l (by simpa using h2)) trivial (by simp)
      simpa using this
end Go.Proofs.YtbpahdgkedfmdaaDoor
