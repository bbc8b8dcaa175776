/- A list of slots, and its links, in plain terms. -/
import Derived.Test.YtcmndefjmhcbhaaDoorSegs
set_option linter.unusedVariables false
namespace Go.Proofs.YtcmndefjmhcbhaaDoor
namespace TE
structure Cp where
  k : Nat
  a : Nat
  b : Nat
  r : Nat
  g : Nat
  s : Nat
  m : Nat
structure Sl where
  c : Cp
  nx : Nat
  pv : Nat
  d : Nat
structure Nd where
  p : Nat
  c : Cp
  d : Nat
def hd : List Nd → Nat → Nat
  | [], q => q
  | n :: _, _ => n.p
def lst : Nat → List Nd → Nat
  | p, [] => p
  | _, n :: L => lst n.p L
def sg : Nat → List Nd → Nat → Nat → Option Sl
  | _, [], _, _ => none
  | p, n :: L, q, z => if z = n.p then some ⟨n.c, hd L q, p, n.d⟩ else sg n.p L q z
def ps (L : List Nd) : List Nat := L.map (·.p)
def up (f : Nat → Option Sl) (x : Nat) (v : Option Sl) : Nat → Option Sl := fun z => if z = x then v else f z
def ch (f : Nat → Option Sl) (x : Nat) (h : Sl → Sl) : Nat → Option Sl := fun z => if z = x then (f z).map h else f z
def toN (v : Nat) (s : Sl) : Sl := { s with nx := v }
def toP (v : Nat) (s : Sl) : Sl := { s with pv := v }
def toD (v : Nat) (s : Sl) : Sl := { s with d := v }
def toC (v : Cp) (s : Sl) : Sl := { s with c := v }

theorem hd_app (A B : List Nd) (q : Nat) : hd (A ++ B) q = hd A (hd B q) := by cases A <;> rfl
theorem lst_app (p : Nat) (A B : List Nd) : lst p (A ++ B) = lst (lst p A) B := by
  induction A generalizing p with
  | nil => rfl
  | cons n A ih => exact ih n.p
theorem sg_none {L : List Nd} {z : Nat} (h : z ∉ ps L) (p q : Nat) : sg p L q z = none := by
  induction L generalizing p with
  | nil => rfl
  | cons n L ih =>
    have h1 : z ≠ n.p := fun e => h (by simp [ps, e])
    have h2 : z ∉ ps L := fun e => h (by simp [ps] at e ⊢; exact Or.inr e)
    show (if z = n.p then _ else sg n.p L q z) = none
    rw [if_neg h1]; exact ih h2 _
theorem sg_some {L : List Nd} {z : Nat} (h : z ∈ ps L) (p q : Nat) : ∃ s, sg p L q z = some s := by
  induction L generalizing p with
  | nil => simp [ps] at h
  | cons n L ih =>
    show ∃ s, (if z = n.p then _ else sg n.p L q z) = some s
    by_cases h1 : z = n.p
    · rw [if_pos h1]; exact ⟨_, rfl⟩
    · rw [if_neg h1]; exact ih (by simp [ps] at h ⊢; rcases h with h | h; exact absurd h h1; exact h) _
theorem sg_app (p : Nat) (A B : List Nd) (q z : Nat) : sg p (A ++ B) q z = if z ∈ ps A then sg p A (hd B q) z else sg (lst p A) B q z := by
  induction A generalizing p with
  | nil => simp [ps, lst]
  | cons n A ih =>
    show (if z = n.p then some ⟨n.c, hd (A ++ B) q, p, n.d⟩ else sg n.p (A ++ B) q z) = if z ∈ ps (n :: A) then (if z = n.p then some ⟨n.c, hd A (hd B q), p, n.d⟩ else sg n.p A (hd B q) z) else sg (lst n.p A) B q z
    rw [hd_app, ih]
    by_cases h : z = n.p
    · rw [if_pos h, if_pos (by simp [ps, h]), if_pos h]
    · rw [if_neg h, if_neg h]
      by_cases h2 : z ∈ ps A
      · rw [if_pos h2, if_pos (by simp [ps] at h2 ⊢; exact Or.inr h2)]
      · rw [if_neg h2, if_neg (by simp [ps] at h2 ⊢; exact ⟨h, h2⟩)]
theorem lst_mem {A : List Nd} (p : Nat) (h : A ≠ []) : lst p A ∈ ps A := by
  induction A generalizing p with
  | nil => exact absurd rfl h
  | cons n A ih =>
    cases A with
    | nil => simp [lst, ps]
    | cons m A => have := ih n.p (by simp); simp [ps, lst] at this ⊢; exact Or.inr this
theorem hd_mem {A : List Nd} (q : Nat) (h : A ≠ []) : hd A q ∈ ps A := by
  cases A with
  | nil => exact absurd rfl h
  | cons n A => simp [hd, ps]
/-- The last one's Next is another one. -/
theorem sg_q {A : List Nd} (hn : (ps A).Nodup) (p q q' : Nat) : sg p A q' = ch (sg p A q) (lst p A) (toN q') := by
  induction A generalizing p with
  | nil => funext z; simp [sg, ch]
  | cons n A ih =>
    funext z
    have hn2 : (ps A).Nodup := (List.nodup_cons.1 hn).2
    have hn1 : n.p ∉ ps A := (List.nodup_cons.1 hn).1
    have := congrFun (ih hn2 n.p) z
    show (if z = n.p then some ⟨n.c, hd A q', p, n.d⟩ else sg n.p A q' z) = if z = lst n.p A then (if z = n.p then some ⟨n.c, hd A q, p, n.d⟩ else sg n.p A q z).map (toN q') else (if z = n.p then some ⟨n.c, hd A q, p, n.d⟩ else sg n.p A q z)
    cases A with
    | nil =>
      by_cases h : z = n.p
      · simp [h, lst, hd, toN]
      · simp [h, lst, sg]
    | cons m A =>
      have hl : lst n.p (m :: A) ∈ ps (m :: A) := lst_mem _ (by simp)
      by_cases h : z = n.p
      · have : z ≠ lst n.p (m :: A) := fun e => hn1 (h ▸ e ▸ hl)
        rw [if_pos h, if_neg this, if_pos h]; rfl
      · rw [if_neg h, if_neg h, this]; rfl
/-- The first one's Prev is another one. -/
theorem sg_p (B : List Nd) (p p' q q0 : Nat) : sg p' B q = ch (sg p B q) (hd B q0) (toP p') := by
  funext z
  cases B with
  | nil => simp [sg, ch]
  | cons n B =>
    show (if z = n.p then some ⟨n.c, hd B q, p', n.d⟩ else sg n.p B q z) = if z = n.p then (if z = n.p then some ⟨n.c, hd B q, p, n.d⟩ else sg n.p B q z).map (toP p') else (if z = n.p then _ else sg n.p B q z)
    by_cases h : z = n.p
    · simp [h, toP]
    · simp [h]

/-- Two slots become neighbours. -/
def jnF (pr nx fs : Nat) : Nat := if pr = 0 then nx else fs
def jnS (pr nx : Nat) (f : Nat → Option Sl) : Nat → Option Sl := ch (ch f pr (toN nx)) nx (toP pr)
def lyF (y : Nat) (s : Sl) (fs : Nat) : Nat := jnF y s.nx (jnF s.pv y fs)
def lyS (y : Nat) (s : Sl) (f : Nat → Option Sl) : Nat → Option Sl := jnS y s.nx (jnS s.pv y (up f y (some s)))

theorem lyF_eq {y : Nat} (hy : y ≠ 0) (s : Sl) (fs : Nat) : lyF y s fs = if s.pv = 0 then y else fs := by
  unfold lyF jnF; rw [if_neg hy]
theorem lst_ne {A : List Nd} (h : ∀ n ∈ A, n.p ≠ 0) : lst 0 A = 0 ↔ A = [] := by
  cases A with
  | nil => simp [lst]
  | cons n A =>
    have := lst_mem (A := n :: A) 0 (by simp)
    simp only [ps, List.mem_map] at this
    obtain ⟨m, hm, e⟩ := this
    simp only [reduceCtorEq, iff_false]
    rw [← e]; exact h m hm
theorem hd_ne {A : List Nd} (h : ∀ n ∈ A, n.p ≠ 0) : hd A 0 = 0 ↔ A = [] := by
  cases A with
  | nil => simp [hd]
  | cons n A => simp [hd]; exact h n (by simp)

theorem ps_app (A B : List Nd) : ps (A ++ B) = ps A ++ ps B := by simp [ps]
theorem nd_app {A B : List Nd} (h : (ps (A ++ B)).Nodup) : (ps A).Nodup ∧ (ps B).Nodup ∧ ∀ x, x ∈ ps A → x ∈ ps B → False := by
  rw [ps_app] at h
  obtain ⟨h1, h2, h3⟩ := List.nodup_append.1 h
  exact ⟨h1, h2, fun x p q => h3 x p x q rfl⟩
theorem up_z (f : Nat → Option Sl) (x : Nat) (v : Option Sl) (z : Nat) : up f x v z = if z = x then v else f z := rfl
theorem ch_z (f : Nat → Option Sl) (x : Nat) (h : Sl → Sl) (z : Nat) : ch f x h z = if z = x then (f z).map h else f z := rfl
theorem sg_cons (p : Nat) (n : Nd) (L : List Nd) (q z : Nat) : sg p (n :: L) q z = if z = n.p then some ⟨n.c, hd L q, p, n.d⟩ else sg n.p L q z := rfl
theorem hd_cons (n : Nd) (L : List Nd) (q : Nat) : hd (n :: L) q = n.p := rfl
theorem lst_cons (p : Nat) (n : Nd) (L : List Nd) : lst p (n :: L) = lst n.p L := rfl

theorem e_nil {A B : List Nd} : (A = [] → ps A = []) ∧ (B = [] → ps B = []) ∧ (A = [] → lst 0 A = 0) ∧ (B = [] → hd B 0 = 0) := ⟨fun e => by rw [e]; rfl, fun e => by rw [e]; rfl, fun e => by rw [e]; rfl, fun e => by rw [e]; rfl⟩

/-- A slot between two others. -/
theorem lay_ins {A B : List Nd} {m : Nd} (hA : ∀ n ∈ A, n.p ≠ 0) (hm : m.p ≠ 0) (hn : (ps (A ++ B)).Nodup) (hx : m.p ∉ ps (A ++ B)) (h0 : 0 ∉ ps (A ++ B)) :
    lyS m.p ⟨m.c, hd B 0, lst 0 A, m.d⟩ (sg 0 (A ++ B) 0) = sg 0 (A ++ m :: B) 0 ∧ lyF m.p ⟨m.c, hd B 0, lst 0 A, m.d⟩ (hd (A ++ B) 0) = hd (A ++ m :: B) 0 := by
  obtain ⟨nA, nB, dj⟩ := nd_app hn
  rw [ps_app, List.mem_append] at hx h0
  have e1 := lst_ne hA
  have l1 : A ≠ [] → lst 0 A ∈ ps A := lst_mem 0
  have l2 : B ≠ [] → hd B 0 ∈ ps B := hd_mem 0
  constructor
  · funext z
    have q1 := congrFun (sg_q nA 0 (hd B 0) m.p) z
    have q2 := congrFun (sg_p B (lst 0 A) m.p 0 0) z
    have q3 := fun (h : z ∉ ps B) => sg_none h (lst 0 A) 0
    have q4 := fun (h : z ∉ ps A) => sg_none h 0 (hd B 0)
    unfold lyS jnS
    simp only [ch_z, up_z, sg_app, hd_cons, sg_cons] at q1 q2 ⊢
    rw [q1, q2]
    obtain ⟨a1, b1, a2, b2⟩ := @e_nil A B
    generalize hd B 0 = hB at *
    generalize lst 0 A = lA at *
    generalize sg 0 A hB z = sA at *
    generalize sg lA B 0 z = sB at *
    generalize ps A = pA at *
    generalize ps B = pB at *
    by_cases hz : z = m.p
    · subst hz; grind [toN, toP]
    · rw [if_neg hz, if_neg hz]
      grind [toN, toP]
  · unfold lyF jnF
    dsimp only
    rw [if_neg hm, hd_app, hd_app]
    cases A with
    | nil => rfl
    | cons n A => rw [if_neg (by rw [e1]; simp)]; rfl

/-- A slot's place is at another address. -/
theorem move_ok {A B : List Nd} {n : Nd} {y : Nat} (hA : ∀ n ∈ A, n.p ≠ 0) (hy : y ≠ 0) (hn : (ps (A ++ n :: B)).Nodup) (hx : y ∉ ps (A ++ n :: B)) (h0 : 0 ∉ ps (A ++ n :: B)) :
    up (lyS y ⟨n.c, hd B 0, lst 0 A, n.d⟩ (sg 0 (A ++ n :: B) 0)) n.p none = sg 0 (A ++ { n with p := y } :: B) 0 ∧ lyF y ⟨n.c, hd B 0, lst 0 A, n.d⟩ (hd (A ++ n :: B) 0) = hd (A ++ { n with p := y } :: B) 0 := by
  obtain ⟨nA, nB, dj⟩ := nd_app hn
  have nB2 : (ps B).Nodup := (List.nodup_cons.1 nB).2
  have nn : n.p ∉ ps B := (List.nodup_cons.1 nB).1
  rw [ps_app, List.mem_append] at hx h0
  have ec : ps (n :: B) = n.p :: ps B := rfl
  rw [ec] at hx h0 dj
  simp only [List.mem_cons] at hx h0 dj
  have e1 := lst_ne hA
  have l1 : A ≠ [] → lst 0 A ∈ ps A := lst_mem 0
  have l2 : B ≠ [] → hd B 0 ∈ ps B := hd_mem 0
  constructor
  · funext z
    have q1 := congrFun (sg_q nA 0 n.p y) z
    have q2 := congrFun (sg_p B n.p y 0 0) z
    have q3 := fun (h : z ∉ ps B) => sg_none h n.p 0
    have q4 := fun (h : z ∉ ps A) => sg_none h 0 n.p
    unfold lyS jnS
    simp only [ch_z, up_z, sg_app, hd_cons, sg_cons] at q1 q2 ⊢
    rw [q1, q2]
    obtain ⟨a1, b1, a2, b2⟩ := @e_nil A B
    generalize hd B 0 = hB at *
    generalize lst 0 A = lA at *
    generalize sg 0 A n.p z = sA at *
    generalize sg n.p B 0 z = sB at *
    generalize ps A = pA at *
    generalize ps B = pB at *
    by_cases hz : z = y
    · subst hz; grind [toN, toP]
    · rw [if_neg hz, if_neg hz]
      grind [toN, toP]
  · unfold lyF jnF
    dsimp only
    rw [if_neg hy, hd_app, hd_app]
    cases A with
    | nil => rfl
    | cons n A => rw [if_neg (by rw [e1]; simp)]; rfl

/-- A slot is taken out. -/
theorem rem_ok {A B : List Nd} {n : Nd} (hA : ∀ n ∈ A, n.p ≠ 0) (hn : (ps (A ++ n :: B)).Nodup) (h0 : 0 ∉ ps (A ++ n :: B)) :
    up (jnS (lst 0 A) (hd B 0) (sg 0 (A ++ n :: B) 0)) n.p none = sg 0 (A ++ B) 0 ∧ jnF (lst 0 A) (hd B 0) (hd (A ++ n :: B) 0) = hd (A ++ B) 0 := by
  obtain ⟨nA, nB, dj⟩ := nd_app hn
  have nn : n.p ∉ ps B := (List.nodup_cons.1 nB).1
  rw [ps_app, List.mem_append] at h0
  have ec : ps (n :: B) = n.p :: ps B := rfl
  rw [ec] at h0 dj
  simp only [List.mem_cons] at h0 dj
  have e1 := lst_ne hA
  have l1 : A ≠ [] → lst 0 A ∈ ps A := lst_mem 0
  have l2 : B ≠ [] → hd B 0 ∈ ps B := hd_mem 0
  constructor
  · funext z
    have q1 := congrFun (sg_q nA 0 n.p (hd B 0)) z
    have q2 := congrFun (sg_p B n.p (lst 0 A) 0 0) z
    have q3 := fun (h : z ∉ ps B) => sg_none h n.p 0
    have q4 := fun (h : z ∉ ps A) => sg_none h 0 n.p
    unfold jnS
    simp only [ch_z, up_z, sg_app, hd_cons, sg_cons] at q1 q2 ⊢
    rw [q1, q2]
    obtain ⟨a1, b1, a2, b2⟩ := @e_nil A B
    generalize hd B 0 = hB at *
    generalize lst 0 A = lA at *
    generalize sg 0 A n.p z = sA at *
    generalize sg n.p B 0 z = sB at *
    generalize ps A = pA at *
    generalize ps B = pB at *
    grind [toN, toP]
  · unfold jnF
    rw [hd_app, hd_app]
    cases A with
    | nil => rfl
    | cons n A => rw [if_neg (by rw [e1]; simp)]; rfl
/-- A slot has another capability, or depth. -/
theorem setC_ok {A B : List Nd} {n : Nd} (c : Cp) (hn : (ps (A ++ n :: B)).Nodup) : ch (sg 0 (A ++ n :: B) 0) n.p (toC c) = sg 0 (A ++ { n with c := c } :: B) 0 := by
  obtain ⟨nA, nB, dj⟩ := nd_app hn
  have ec : ps (n :: B) = n.p :: ps B := rfl
  rw [ec] at dj
  simp only [List.mem_cons] at dj
  funext z
  simp only [ch_z, sg_app, hd_cons, sg_cons]
  grind [toC]
theorem setD_ok {A B : List Nd} {n : Nd} (d : Nat) (hn : (ps (A ++ n :: B)).Nodup) : ch (sg 0 (A ++ n :: B) 0) n.p (toD d) = sg 0 (A ++ { n with d := d } :: B) 0 := by
  obtain ⟨nA, nB, dj⟩ := nd_app hn
  have ec : ps (n :: B) = n.p :: ps B := rfl
  rw [ec] at dj
  simp only [List.mem_cons] at dj
  funext z
  simp only [ch_z, sg_app, hd_cons, sg_cons]
  grind [toD]
/-- What a slot holds. -/
theorem sg_at {A B : List Nd} {n : Nd} (hn : (ps (A ++ n :: B)).Nodup) : sg 0 (A ++ n :: B) 0 n.p = some ⟨n.c, hd B 0, lst 0 A, n.d⟩ := by
  obtain ⟨nA, nB, dj⟩ := nd_app hn
  have ec : ps (n :: B) = n.p :: ps B := rfl
  rw [ec] at dj
  simp only [List.mem_cons] at dj
  simp only [sg_app, sg_cons]
  grind
theorem cmt (s : Option Sl) (x y : Nat) : (s.map (toP y)).map (toN x) = (s.map (toN x)).map (toP y) := by cases s <;> rfl
/-- A link to one of two leads to the other one. -/
def tn (a b x : Nat) : Nat := if x = a then b else if x = b then a else x

set_option maxHeartbeats 4000000 in
theorem swap1 {A B C : List Nd} {n1 n2 : Nd} (hA : ∀ n ∈ A, n.p ≠ 0) (hn : (ps (A ++ n1 :: (B ++ n2 :: C))).Nodup) (h0 : 0 ∉ ps (A ++ n1 :: (B ++ n2 :: C))) :
    lyS n2.p ⟨n1.c, tn n1.p n2.p (hd B n2.p), tn n1.p n2.p (lst 0 A), n1.d⟩ (lyS n1.p ⟨n2.c, tn n1.p n2.p (hd C 0), tn n1.p n2.p (lst n1.p B), n2.d⟩ (sg 0 (A ++ n1 :: (B ++ n2 :: C)) 0)) = sg 0 (A ++ { n1 with p := n2.p } :: (B ++ { n2 with p := n1.p } :: C)) 0 ∧
      lyF n2.p ⟨n1.c, tn n1.p n2.p (hd B n2.p), tn n1.p n2.p (lst 0 A), n1.d⟩ (lyF n1.p ⟨n2.c, tn n1.p n2.p (hd C 0), tn n1.p n2.p (lst n1.p B), n2.d⟩ (hd (A ++ n1 :: (B ++ n2 :: C)) 0)) = hd (A ++ { n1 with p := n2.p } :: (B ++ { n2 with p := n1.p } :: C)) 0 := by
  obtain ⟨nA, nX, dj⟩ := nd_app hn
  have nY := (List.nodup_cons.1 nX).2
  have n1x := (List.nodup_cons.1 nX).1
  obtain ⟨nB, nZ, dk⟩ := nd_app nY
  have nC := (List.nodup_cons.1 nZ).2
  have n2x : n2.p ∉ ps C := (List.nodup_cons.1 nZ).1
  have ec : ∀ (n : Nd) (L : List Nd), ps (n :: L) = n.p :: ps L := fun _ _ => rfl
  rw [ps_app, List.mem_append] at h0
  change n1.p ∉ ps (B ++ n2 :: C) at n1x
  simp only [ec, ps_app, List.mem_cons, List.mem_append] at h0 dj dk n1x
  have l1 : A ≠ [] → lst 0 A ∈ ps A := lst_mem 0
  have l2 : C ≠ [] → hd C 0 ∈ ps C := hd_mem 0
  have l3 : B ≠ [] → hd B n2.p ∈ ps B := hd_mem _
  have l4 : B ≠ [] → lst n1.p B ∈ ps B := lst_mem _
  have tA : tn n1.p n2.p (lst 0 A) = lst 0 A := by
    have a2 : A = [] → lst 0 A = 0 := fun e => by rw [e]; rfl
    generalize lst 0 A = lA at *
    clear hn nX nY nZ nA nB nC hA ec
    unfold tn; grind
  have tC : tn n1.p n2.p (hd C 0) = hd C 0 := by
    have a2 : C = [] → hd C 0 = 0 := fun e => by rw [e]; rfl
    generalize hd C 0 = lA at *
    clear hn nX nY nZ nA nB nC hA ec tA
    unfold tn; grind
  have tB : (B = [] ∧ tn n1.p n2.p (hd B n2.p) = n1.p ∧ tn n1.p n2.p (lst n1.p B) = n2.p) ∨ (B ≠ [] ∧ tn n1.p n2.p (hd B n2.p) = hd B n2.p ∧ tn n1.p n2.p (lst n1.p B) = lst n1.p B) := by
    by_cases e : B = []
    · refine Or.inl ⟨e, ?_⟩
      subst e
      simp only [hd, lst]
      clear hn nX nY nZ nA nB nC hA ec tA tC
      unfold tn; grind
    · refine Or.inr ⟨e, ?_⟩
      have l3 := l3 e
      have l4 := l4 e
      generalize hd B n2.p = x at *
      generalize lst n1.p B = y at *
      clear hn nX nY nZ nA nB nC hA ec tA tC
      unfold tn; grind
  rw [tA, tC]
  constructor
  · funext z
    have q1 := congrFun (sg_q nA 0 n1.p n2.p) z
    have q2 := congrFun (sg_p C n2.p n1.p 0 0) z
    have q5 := congrFun (sg_q nB n2.p n2.p n1.p) z
    have q6 := congrFun (sg_p B n1.p n2.p n2.p n2.p) z
    have q3 := fun (h : z ∉ ps C) => sg_none h n2.p 0
    have q4 := fun (h : z ∉ ps A) => sg_none h 0 n1.p
    have q7 := fun (h : z ∉ ps B) => sg_none h n1.p n2.p
    unfold lyS jnS
    simp only [ch_z, up_z, sg_app, hd_app, hd_cons, sg_cons] at q1 q2 q5 q6 ⊢
    rw [q6] at q5
    rw [q1, q2, q5]
    have a1 : A = [] → ps A = [] := fun e => by rw [e]; rfl
    have b1 : B = [] → ps B = [] := fun e => by rw [e]; rfl
    have c1 : C = [] → ps C = [] := fun e => by rw [e]; rfl
    have a2 : A = [] → lst 0 A = 0 := fun e => by rw [e]; rfl
    have c2 : C = [] → hd C 0 = 0 := fun e => by rw [e]; rfl
    have b2 : B = [] → hd B n2.p = n2.p := fun e => by rw [e]; rfl
    have b3 : B = [] → lst n1.p B = n1.p := fun e => by rw [e]; rfl
    have b6 : B = [] → hd B n1.p = n1.p := fun e => by rw [e]; rfl
    have b7 : B ≠ [] → hd B n1.p = hd B n2.p := fun e => by cases B with | nil => exact absurd rfl e | cons n B => rfl
    have b4 : B = [] → lst n2.p B = n2.p := fun e => by rw [e]; rfl
    have b5 : B ≠ [] → lst n2.p B = lst n1.p B := fun e => by cases B with | nil => exact absurd rfl e | cons n B => rfl
    clear hn nX nY nZ nA nB nC hA q6 ec
    generalize hd B n1.p = hB1 at *
    generalize hd B n2.p = hB at *
    generalize hd C 0 = hC at *
    generalize lst 0 A = lA at *
    generalize lst n1.p B = lB at *
    generalize lst n2.p B = lB2 at *
    generalize sg 0 A n1.p z = sA at *
    generalize sg n1.p B n2.p z = sB at *
    generalize sg n2.p C 0 z = sC at *
    generalize ps A = pA at *
    generalize ps B = pB at *
    generalize ps C = pC at *
    clear tA tC
    rcases tB with ⟨e, t1, t2⟩ | ⟨e, t1, t2⟩ <;> rw [t1, t2] <;> clear t1 t2 <;> by_cases hz1 : z = n1.p <;> by_cases hz2 : z = n2.p <;> (try subst hz1) <;> (try subst hz2) <;> by_cases hAe : A = [] <;> by_cases hBe : B = [] <;> by_cases hCe : C = [] <;> simp only [hAe, hBe, hCe, ne_eq, not_true_eq_false, not_false_eq_true, false_implies, true_implies] at a1 b1 c1 a2 c2 b2 b3 b4 b5 b6 b7 l1 l2 l3 l4
    all_goals first | grind (splits := 40) [toN, toP] | (have cm := cmt sB n1.p n2.p; grind (splits := 40) [toN, toP])
  · have e1 := lst_ne hA
    have hb : tn n1.p n2.p (lst n1.p B) ≠ 0 := by
      rcases tB with ⟨-, -, t2⟩ | ⟨e, -, t2⟩ <;> rw [t2]
      · exact fun c => h0 (Or.inr (Or.inr (Or.inr (Or.inl c.symm))))
      · exact fun c => h0 (Or.inr (Or.inr (Or.inl (c ▸ l4 e))))
    have ha1 : n1.p ≠ 0 := fun c => h0 (Or.inr (Or.inl c.symm))
    have ha2 : n2.p ≠ 0 := fun c => h0 (Or.inr (Or.inr (Or.inr (Or.inl c.symm))))
    rw [lyF_eq ha1, lyF_eq ha2]
    dsimp only
    rw [if_neg hb, hd_app, hd_app]
    cases A with
    | nil => simp [lst, hd]
    | cons n A => rw [if_neg (by rw [e1]; simp)]; rfl

set_option maxHeartbeats 4000000 in
theorem swap2 {A B C : List Nd} {n1 n2 : Nd} (hA : ∀ n ∈ A, n.p ≠ 0) (hn : (ps (A ++ n1 :: (B ++ n2 :: C))).Nodup) (h0 : 0 ∉ ps (A ++ n1 :: (B ++ n2 :: C))) :
    lyS n1.p ⟨n2.c, tn n2.p n1.p (hd C 0), tn n2.p n1.p (lst n1.p B), n2.d⟩ (lyS n2.p ⟨n1.c, tn n2.p n1.p (hd B n2.p), tn n2.p n1.p (lst 0 A), n1.d⟩ (sg 0 (A ++ n1 :: (B ++ n2 :: C)) 0)) = sg 0 (A ++ { n1 with p := n2.p } :: (B ++ { n2 with p := n1.p } :: C)) 0 ∧
      lyF n1.p ⟨n2.c, tn n2.p n1.p (hd C 0), tn n2.p n1.p (lst n1.p B), n2.d⟩ (lyF n2.p ⟨n1.c, tn n2.p n1.p (hd B n2.p), tn n2.p n1.p (lst 0 A), n1.d⟩ (hd (A ++ n1 :: (B ++ n2 :: C)) 0)) = hd (A ++ { n1 with p := n2.p } :: (B ++ { n2 with p := n1.p } :: C)) 0 := by
  obtain ⟨nA, nX, dj⟩ := nd_app hn
  have nY := (List.nodup_cons.1 nX).2
  have n1x := (List.nodup_cons.1 nX).1
  obtain ⟨nB, nZ, dk⟩ := nd_app nY
  have nC := (List.nodup_cons.1 nZ).2
  have n2x : n2.p ∉ ps C := (List.nodup_cons.1 nZ).1
  have ec : ∀ (n : Nd) (L : List Nd), ps (n :: L) = n.p :: ps L := fun _ _ => rfl
  rw [ps_app, List.mem_append] at h0
  change n1.p ∉ ps (B ++ n2 :: C) at n1x
  simp only [ec, ps_app, List.mem_cons, List.mem_append] at h0 dj dk n1x
  have l1 : A ≠ [] → lst 0 A ∈ ps A := lst_mem 0
  have l2 : C ≠ [] → hd C 0 ∈ ps C := hd_mem 0
  have l3 : B ≠ [] → hd B n2.p ∈ ps B := hd_mem _
  have l4 : B ≠ [] → lst n1.p B ∈ ps B := lst_mem _
  have tA : tn n2.p n1.p (lst 0 A) = lst 0 A := by
    have a2 : A = [] → lst 0 A = 0 := fun e => by rw [e]; rfl
    generalize lst 0 A = lA at *
    clear hn nX nY nZ nA nB nC hA ec
    unfold tn; grind
  have tC : tn n2.p n1.p (hd C 0) = hd C 0 := by
    have a2 : C = [] → hd C 0 = 0 := fun e => by rw [e]; rfl
    generalize hd C 0 = lA at *
    clear hn nX nY nZ nA nB nC hA ec tA
    unfold tn; grind
  have tB : (B = [] ∧ tn n2.p n1.p (hd B n2.p) = n1.p ∧ tn n2.p n1.p (lst n1.p B) = n2.p) ∨ (B ≠ [] ∧ tn n2.p n1.p (hd B n2.p) = hd B n2.p ∧ tn n2.p n1.p (lst n1.p B) = lst n1.p B) := by
    by_cases e : B = []
    · refine Or.inl ⟨e, ?_⟩
      subst e
      simp only [hd, lst]
      clear hn nX nY nZ nA nB nC hA ec tA tC
      unfold tn; grind
    · refine Or.inr ⟨e, ?_⟩
      have l3 := l3 e
      have l4 := l4 e
      generalize hd B n2.p = x at *
      generalize lst n1.p B = y at *
      clear hn nX nY nZ nA nB nC hA ec tA tC
      unfold tn; grind
  rw [tA, tC]
  constructor
  · funext z
    have q1 := congrFun (sg_q nA 0 n1.p n2.p) z
    have q2 := congrFun (sg_p C n2.p n1.p 0 0) z
    have q5 := congrFun (sg_q nB n2.p n2.p n1.p) z
    have q6 := congrFun (sg_p B n1.p n2.p n2.p n2.p) z
    have q3 := fun (h : z ∉ ps C) => sg_none h n2.p 0
    have q4 := fun (h : z ∉ ps A) => sg_none h 0 n1.p
    have q7 := fun (h : z ∉ ps B) => sg_none h n1.p n2.p
    unfold lyS jnS
    simp only [ch_z, up_z, sg_app, hd_app, hd_cons, sg_cons] at q1 q2 q5 q6 ⊢
    rw [q6] at q5
    rw [q1, q2, q5]
    have a1 : A = [] → ps A = [] := fun e => by rw [e]; rfl
    have b1 : B = [] → ps B = [] := fun e => by rw [e]; rfl
    have c1 : C = [] → ps C = [] := fun e => by rw [e]; rfl
    have a2 : A = [] → lst 0 A = 0 := fun e => by rw [e]; rfl
    have c2 : C = [] → hd C 0 = 0 := fun e => by rw [e]; rfl
    have b2 : B = [] → hd B n2.p = n2.p := fun e => by rw [e]; rfl
    have b3 : B = [] → lst n1.p B = n1.p := fun e => by rw [e]; rfl
    have b6 : B = [] → hd B n1.p = n1.p := fun e => by rw [e]; rfl
    have b7 : B ≠ [] → hd B n1.p = hd B n2.p := fun e => by cases B with | nil => exact absurd rfl e | cons n B => rfl
    have b4 : B = [] → lst n2.p B = n2.p := fun e => by rw [e]; rfl
    have b5 : B ≠ [] → lst n2.p B = lst n1.p B := fun e => by cases B with | nil => exact absurd rfl e | cons n B => rfl
    clear hn nX nY nZ nA nB nC hA q6 ec
    generalize hd B n1.p = hB1 at *
    generalize hd B n2.p = hB at *
    generalize hd C 0 = hC at *
    generalize lst 0 A = lA at *
    generalize lst n1.p B = lB at *
    generalize lst n2.p B = lB2 at *
    generalize sg 0 A n1.p z = sA at *
    generalize sg n1.p B n2.p z = sB at *
    generalize sg n2.p C 0 z = sC at *
    generalize ps A = pA at *
    generalize ps B = pB at *
    generalize ps C = pC at *
    clear tA tC
    rcases tB with ⟨e, t1, t2⟩ | ⟨e, t1, t2⟩ <;> rw [t1, t2] <;> clear t1 t2 <;> by_cases hz1 : z = n1.p <;> by_cases hz2 : z = n2.p <;> (try subst hz1) <;> (try subst hz2) <;> by_cases hAe : A = [] <;> by_cases hBe : B = [] <;> by_cases hCe : C = [] <;> simp only [hAe, hBe, hCe, ne_eq, not_true_eq_false, not_false_eq_true, false_implies, true_implies] at a1 b1 c1 a2 c2 b2 b3 b4 b5 b6 b7 l1 l2 l3 l4
    all_goals first | grind (splits := 40) [toN, toP] | (have cm := cmt sB n1.p n2.p; grind (splits := 40) [toN, toP])
  · have e1 := lst_ne hA
    have hb : tn n2.p n1.p (lst n1.p B) ≠ 0 := by
      rcases tB with ⟨-, -, t2⟩ | ⟨e, -, t2⟩ <;> rw [t2]
      · exact fun c => h0 (Or.inr (Or.inr (Or.inr (Or.inl c.symm))))
      · exact fun c => h0 (Or.inr (Or.inr (Or.inl (c ▸ l4 e))))
    have ha1 : n1.p ≠ 0 := fun c => h0 (Or.inr (Or.inl c.symm))
    have ha2 : n2.p ≠ 0 := fun c => h0 (Or.inr (Or.inr (Or.inr (Or.inl c.symm))))
    rw [lyF_eq ha1, lyF_eq ha2]
    dsimp only
    rw [if_neg hb, hd_app, hd_app]
    cases A with
    | nil => simp [lst, hd]
    | cons n A => rw [if_neg (by rw [e1]; simp)]; rfl

end TE
end Go.Proofs.YtcmndefjmhcbhaaDoor
