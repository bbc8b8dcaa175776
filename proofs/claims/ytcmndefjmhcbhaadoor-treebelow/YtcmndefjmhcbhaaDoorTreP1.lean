/- Remove, as a step of a list. -/
import Derived.Test.YtcmndefjmhcbhaaDoorTreP0

/- A slot is laid on itself; depths; steps in plain terms. -/
set_option linter.unusedVariables false
namespace Go.Proofs.YtcmndefjmhcbhaaDoor
open Go.RowKit
namespace TE

theorem lay_self {A B : List Nd} {n : Nd} (hA : ∀ n ∈ A, n.p ≠ 0) (hn : (ps (A ++ n :: B)).Nodup) (h0 : 0 ∉ ps (A ++ n :: B)) :
    lyS n.p ⟨n.c, hd B 0, lst 0 A, n.d⟩ (sg 0 (A ++ n :: B) 0) = sg 0 (A ++ n :: B) 0 ∧ lyF n.p ⟨n.c, hd B 0, lst 0 A, n.d⟩ (hd (A ++ n :: B) 0) = hd (A ++ n :: B) 0 := by
  obtain ⟨nA, nB, dj⟩ := nd_app hn
  have nB2 : (ps B).Nodup := (List.nodup_cons.1 nB).2
  have nn : n.p ∉ ps B := (List.nodup_cons.1 nB).1
  rw [ps_app, List.mem_append] at h0
  have ec : ps (n :: B) = n.p :: ps B := rfl
  rw [ec] at h0 dj
  simp only [List.mem_cons] at h0 dj
  have e1 := lst_ne hA
  have l1 : A ≠ [] → lst 0 A ∈ ps A := lst_mem 0
  have l2 : B ≠ [] → hd B 0 ∈ ps B := hd_mem 0
  have n0 : n.p ≠ 0 := fun c => h0 (Or.inr (Or.inl c.symm))
  constructor
  · funext z
    have q1 := congrFun (sg_q nA 0 n.p n.p) z
    have q2 := congrFun (sg_p B n.p n.p 0 0) z
    have q3 := fun (h : z ∉ ps B) => sg_none h n.p 0
    have q4 := fun (h : z ∉ ps A) => sg_none h 0 n.p
    unfold lyS jnS
    simp only [ch_z, up_z, sg_app, hd_cons, sg_cons] at q1 q2 ⊢
    obtain ⟨a1, b1, a2, b2⟩ := @e_nil A B
    generalize hd B 0 = hB at *
    generalize lst 0 A = lA at *
    generalize sg 0 A n.p z = sA at *
    generalize sg n.p B 0 z = sB at *
    generalize ps A = pA at *
    generalize ps B = pB at *
    by_cases hz : z = n.p
    · subst hz; grind [toN, toP]
    · rw [if_neg hz, if_neg hz]
      grind [toN, toP]
  · unfold lyF jnF
    dsimp only
    rw [if_neg n0, hd_app]
    cases A with
    | nil => rfl
    | cons n A => rw [if_neg (by rw [e1]; simp)]
theorem tn_self (a x : Nat) : tn a a x = x := by unfold tn; by_cases h : x = a <;> simp [h]
theorem part_at {L : List Nd} {y : Nat} (h : y ∈ ps L) : ∃ A n B, L = A ++ n :: B ∧ n.p = y ∧ y ∉ ps A := by
  induction L with
  | nil => cases h
  | cons m L ih =>
    by_cases e : m.p = y
    · exact ⟨[], m, L, rfl, e, fun c => by cases c⟩
    · obtain ⟨A, n, B, rfl, h2, h3⟩ := ih (by rcases List.mem_cons.1 h with c | c; exact absurd c.symm e; exact c)
      refine ⟨m :: A, n, B, rfl, h2, fun c => ?_⟩
      rcases List.mem_cons.1 c with c | c
      · exact e c.symm
      · exact h3 c
/-- Steps of a list. -/
def fnd (y : Nat) : List Nd → Option Nd
  | [] => none
  | n :: L => if n.p = y then some n else fnd y L
def insA (y : Nat) (z : Nat) (c : Cp) : List Nd → List Nd
  | [] => []
  | n :: L => if n.p = y then n :: ⟨z, c, n.d + 1⟩ :: L else n :: insA y z c L
def setL (y : Nat) (c : Cp) (L : List Nd) : List Nd := L.map fun n => if n.p = y then { n with c := c } else n
def swpL (a b : Nat) (L : List Nd) : List Nd := L.map fun n => { n with p := tn a b n.p }
def movL (a b : Nat) (L : List Nd) : List Nd := L.map fun n => if n.p = a then { n with p := b } else n
def lowL (d : Nat) : List Nd → List Nd
  | [] => []
  | m :: L => if d < m.d then { m with d := m.d - 1 } :: lowL d L else m :: L
def belL (d : Nat) : List Nd → List Nd
  | [] => []
  | m :: L => if d < m.d then m :: belL d L else []
def remL (y : Nat) : List Nd → List Nd
  | [] => []
  | n :: L => if n.p = y then lowL n.d L else n :: remL y L
def undL (y : Nat) : List Nd → List Nd
  | [] => []
  | n :: L => if n.p = y then belL n.d L else undL y L
theorem ps_cons (n : Nd) (L : List Nd) : ps (n :: L) = n.p :: ps L := rfl
theorem ps_not {n m : Nd} {L : List Nd} (h : n.p ∉ ps (m :: L)) : ¬ m.p = n.p ∧ n.p ∉ ps L := by
  rw [ps_cons, List.mem_cons] at h
  exact ⟨fun c => h (Or.inl c.symm), fun c => h (Or.inr c)⟩
theorem fnd_none {y : Nat} {L : List Nd} (h : y ∉ ps L) : fnd y L = none := by
  induction L with
  | nil => rfl
  | cons m L ih =>
    rw [ps_cons, List.mem_cons] at h
    show (if m.p = y then some m else fnd y L) = none
    rw [if_neg (fun c => h (Or.inl c.symm)), ih (fun c => h (Or.inr c))]
theorem fnd_at {A B : List Nd} {n : Nd} (h : n.p ∉ ps A) : fnd n.p (A ++ n :: B) = some n := by
  induction A with
  | nil => show (if n.p = n.p then some n else _) = _; rw [if_pos rfl]
  | cons m A ih => show (if m.p = n.p then some m else fnd n.p (A ++ n :: B)) = _; rw [if_neg (ps_not h).1, ih (ps_not h).2]
theorem insA_at {A B : List Nd} {n : Nd} (h : n.p ∉ ps A) (z : Nat) (c : Cp) : insA n.p z c (A ++ n :: B) = A ++ n :: ⟨z, c, n.d + 1⟩ :: B := by
  induction A with
  | nil => show (if n.p = n.p then _ else _) = _; rw [if_pos rfl]; rfl
  | cons m A ih => show (if m.p = n.p then _ else m :: insA n.p z c (A ++ n :: B)) = _; rw [if_neg (ps_not h).1, ih (ps_not h).2]; rfl
theorem remL_at {A B : List Nd} {n : Nd} (h : n.p ∉ ps A) : remL n.p (A ++ n :: B) = A ++ lowL n.d B := by
  induction A with
  | nil => show (if n.p = n.p then _ else _) = _; rw [if_pos rfl]; rfl
  | cons m A ih => show (if m.p = n.p then _ else m :: remL n.p (A ++ n :: B)) = _; rw [if_neg (ps_not h).1, ih (ps_not h).2]; rfl
theorem undL_at {A B : List Nd} {n : Nd} (h : n.p ∉ ps A) : undL n.p (A ++ n :: B) = belL n.d B := by
  induction A with
  | nil => show (if n.p = n.p then _ else _) = _; rw [if_pos rfl]
  | cons m A ih => show (if m.p = n.p then _ else undL n.p (A ++ n :: B)) = _; rw [if_neg (ps_not h).1, ih (ps_not h).2]
theorem undL_no {L : List Nd} {y : Nat} (h : y ∉ ps L) : undL y L = [] := by
  induction L with
  | nil => rfl
  | cons m L ih =>
    rw [ps_cons, List.mem_cons] at h
    show (if m.p = y then _ else undL y L) = []
    rw [if_neg (fun c => h (Or.inl c.symm)), ih (fun c => h (Or.inr c))]
theorem map_same {L : List Nd} {f : Nd → Nd} (h : ∀ n ∈ L, f n = n) : L.map f = L := by
  induction L with
  | nil => rfl
  | cons m L ih => rw [List.map_cons, h m (by simp), ih (fun n hn => h n (by simp [hn]))]
theorem mem_psI {L : List Nd} {n : Nd} (h : n ∈ L) : n.p ∈ ps L := List.mem_map.2 ⟨n, h, rfl⟩
theorem setL_at {A B : List Nd} {n : Nd} (hn : (ps (A ++ n :: B)).Nodup) (c : Cp) : setL n.p c (A ++ n :: B) = A ++ { n with c := c } :: B := by
  obtain ⟨nA, nX, dj⟩ := nd_app hn
  unfold setL
  rw [List.map_append, List.map_cons, map_same (L := A), map_same (L := B), if_pos rfl]
  · intro m hm; rw [if_neg]; intro e; exact (List.nodup_cons.1 nX).1 (by have := mem_psI hm; rw [e] at this; exact this)
  · intro m hm; rw [if_neg]; intro e; exact dj m.p (mem_psI hm) (by rw [e, ps_cons]; simp)
theorem movL_at {A B : List Nd} {n : Nd} (hn : (ps (A ++ n :: B)).Nodup) (y : Nat) : movL n.p y (A ++ n :: B) = A ++ { n with p := y } :: B := by
  obtain ⟨nA, nX, dj⟩ := nd_app hn
  unfold movL
  rw [List.map_append, List.map_cons, map_same (L := A), map_same (L := B), if_pos rfl]
  · intro m hm; rw [if_neg]; intro e; exact (List.nodup_cons.1 nX).1 (by have := mem_psI hm; rw [e] at this; exact this)
  · intro m hm; rw [if_neg]; intro e; exact dj m.p (mem_psI hm) (by rw [e, ps_cons]; simp)
theorem swpL_self (a : Nat) (L : List Nd) : swpL a a L = L := map_same fun n _ => by rw [tn_self]
theorem tn_l (a b : Nat) : tn a b a = b := by unfold tn; rw [if_pos rfl]
theorem tn_r (a b : Nat) : tn a b b = a := by unfold tn; by_cases h : b = a; rw [if_pos h, h]; rw [if_neg h, if_pos rfl]
theorem tn_o {a b x : Nat} (h1 : x ≠ a) (h2 : x ≠ b) : tn a b x = x := by unfold tn; rw [if_neg h1, if_neg h2]
theorem swpL_at {A B C : List Nd} {n1 n2 : Nd} (hn : (ps (A ++ n1 :: (B ++ n2 :: C))).Nodup) : swpL n1.p n2.p (A ++ n1 :: (B ++ n2 :: C)) = A ++ { n1 with p := n2.p } :: (B ++ { n2 with p := n1.p } :: C) ∧ swpL n2.p n1.p (A ++ n1 :: (B ++ n2 :: C)) = A ++ { n1 with p := n2.p } :: (B ++ { n2 with p := n1.p } :: C) := by
  obtain ⟨nA, nX, dj⟩ := nd_app hn
  have nY := (List.nodup_cons.1 nX).2
  have x1 := (List.nodup_cons.1 nX).1
  obtain ⟨nB, nZ, dk⟩ := nd_app nY
  have x2 := (List.nodup_cons.1 nZ).1
  change n1.p ∉ ps (B ++ n2 :: C) at x1
  change n2.p ∉ ps C at x2
  rw [ps_app, List.mem_append, ps_cons, List.mem_cons] at x1
  have o : ∀ (L : List Nd), (∀ n ∈ L, n.p ≠ n1.p ∧ n.p ≠ n2.p) → (L.map fun n : Nd => { n with p := tn n1.p n2.p n.p }) = L ∧ (L.map fun n : Nd => { n with p := tn n2.p n1.p n.p }) = L := fun L hL =>
    ⟨map_same fun n hn => by rw [tn_o (hL n hn).1 (hL n hn).2], map_same fun n hn => by rw [tn_o (hL n hn).2 (hL n hn).1]⟩
  have oA := o A fun n hn => ⟨fun e => dj n.p (mem_psI hn) (by rw [e, ps_cons]; simp), fun e => dj n.p (mem_psI hn) (by rw [e, ps_cons, ps_app, ps_cons]; simp)⟩
  have oB := o B fun n hn => ⟨fun e => x1 (Or.inl (by have := mem_psI hn; rw [e] at this; exact this)), fun e => dk n.p (mem_psI hn) (by rw [e, ps_cons]; simp)⟩
  have oC := o C fun n hn => ⟨fun e => x1 (Or.inr (Or.inr (by have := mem_psI hn; rw [e] at this; exact this))), fun e => x2 (by have := mem_psI hn; rw [e] at this; exact this)⟩
  unfold swpL
  refine ⟨?_, ?_⟩
  · rw [List.map_append, List.map_cons, List.map_append, List.map_cons, oA.1, oB.1, oC.1, tn_l, tn_r]
  · rw [List.map_append, List.map_cons, List.map_append, List.map_cons, oA.2, oB.2, oC.2, tn_l, tn_r]
theorem low_bel (d : Nat) (B : List Nd) : ∃ Lb R, B = Lb ++ R ∧ belL d B = Lb ∧ lowL d B = Lb.map (fun m => { m with d := m.d - 1 }) ++ R ∧ (∀ m ∈ Lb, d < m.d) ∧ (∀ m R', R = m :: R' → m.d ≤ d) := by
  induction B with
  | nil => exact ⟨[], [], rfl, rfl, rfl, fun m h => (by cases h), fun m R' h => (by cases h)⟩
  | cons m B ih =>
    by_cases h : d < m.d
    · obtain ⟨Lb, R, h1, h2, h3, h4, h5⟩ := ih
      refine ⟨m :: Lb, R, by rw [h1]; rfl, ?_, ?_, fun x hx => ?_, h5⟩
      · show (if d < m.d then m :: belL d B else []) = _; rw [if_pos h, h2]
      · show (if d < m.d then { m with d := m.d - 1 } :: lowL d B else m :: B) = _; rw [if_pos h, h3]; rfl
      · rcases List.mem_cons.1 hx with c | c
        · rw [c]; exact h
        · exact h4 x c
    · refine ⟨[], m :: B, rfl, ?_, ?_, fun x hx => (by cases hx), fun x R' hx => ?_⟩
      · show (if d < m.d then m :: belL d B else []) = _; rw [if_neg h]
      · show (if d < m.d then { m with d := m.d - 1 } :: lowL d B else m :: B) = _; rw [if_neg h]; rfl
      · cases hx; exact Nat.le_of_not_lt h
/-- A capability that is handed in. -/
structure Cg where
  k : Int
  a : Nat
  b : Int
  r : Int
  q : Int
  s : Int
  m : Nat
def Cg.row (c : Cg) : Array Value := #[.int .i64 c.k, .int .u64 (c.a : Nat), .int .i64 c.b, .int .i64 c.r, .int .i64 c.q, .int .i64 c.s, .int .u64 (c.m : Nat)]
def Cg.ft (c : Cg) : Bool := ftB c.k c.a c.b c.r c.q c.s c.m
def Cg.cp (c : Cg) : Cp := ⟨c.k.toNat, c.a, c.b.toNat, c.r.toNat, c.q.toNat, c.s.toNat, c.m⟩
structure Cg.Ok (c : Cg) : Prop where
  ha : c.a < 18446744073709551616
  hm : c.m < 18446744073709551616
theorem Cg.fit {c : Cg} (hm : c.m < 18446744073709551616) (h : c.ft = true) : Fit c.cp ∧ c.row = c.cp.row := by
  obtain ⟨k, a, b, r, q, s, m⟩ := c
  unfold Cg.ft ftB at h
  rw [Bool.and_eq_true] at h
  obtain ⟨h1, h2⟩ := h
  obtain ⟨K, B, R, G, S, e1, e2, e3, e4, e5, hR⟩ := right_nats hm h1
  dsimp only at e1 e2 e3 e4 e5
  subst e1 e2 e3 e4 e5
  refine ⟨⟨?_, ?_, ?_⟩, ?_⟩
  · show Rt ((K : Int).toNat) a ((B : Int).toNat) ((R : Int).toNat) ((G : Int).toNat) ((S : Int).toNat) m
    simp only [Int.toNat_natCast]; exact hR
  · show cB (((K : Int).toNat : Nat) : Int) a (((B : Int).toNat : Nat) : Int) (((R : Int).toNat : Nat) : Int) (((G : Int).toNat : Nat) : Int) (((S : Int).toNat : Nat) : Int) m = true
    simp only [Int.toNat_natCast]; exact h1
  · show (K : Int).toNat ≠ 0
    simp only [Int.toNat_natCast]
    intro c; rw [c] at h2; simp at h2
  · unfold Cg.row Cp.row Cg.cp
    simp only [Int.toNat_natCast]
set_option maxRecDepth 100000 in
set_option maxHeartbeats 2000000 in
theorem depth_ok {w0 W : World} {O : Nat → Prop} {x ad S n : Nat} {g : Nat → Nat} {σ : Nat → Option Sl} {fs ct : Nat} (h : TrS w0 W O x ad S n g σ fs ct) {p : Nat} {t : Sl} (hp : σ p = some t) :
    Calls Tryd.prog 12 #[.pointer (some ⟨x, 0, none⟩), .int .u64 (p : Nat)] W fun e w' => e = .returned (.int .i64 (t.d : Nat)) ∧ Below W.heap.size W w' := by
  have cH := fun (w1 : World) (hb : Below W.heap.size W w1) => held_ok (h.below hb) hp
  have hB := Below.refl W.heap.size W
  clear h hp
  go_enter Tryd.func12, Tryd.ntmps12
  go_wp2_with fail
  refine (cH _ hB).mono ?_
  rintro e w1 ⟨rfl, hb⟩
  replace hB := below_tr hB hb
  have hRT := hB.size
  have gT := Hid.mk (heap_alloc_new w1 (.cells #[.int .i64 0, .int .u64 0, .int .i64 0, .int .i64 0, .int .i64 0, .int .i64 0, .int .u64 0, .int .u64 0, .int .u64 0, .int .i64 0] 61))
  replace hB := below_tr hB (below_new w1 (.cells #[.int .i64 0, .int .u64 0, .int .i64 0, .int .i64 0, .int .i64 0, .int .i64 0, .int .u64 0, .int .u64 0, .int .u64 0, .int .i64 0] 61))
  go_upto_region 2 with (first
    | (refine wpList_store_segTo rfl 61 _ _ rfl rfl (w1.heap.size) 0 _ t.row rfl rfl rfl 61 _ (gT.out) (by rw [(row10 t)]; exact Nat.le_refl 10) (info10.trans (congrArg some (row10 t).symm)) (row1 t) t.row (segA_all _ _ (by rw [(row10 t)]; rfl)) ?_; intro wq hrq htq)
    | fail)
  replace gT := hrq
  replace hB := below_turn hB htq hRT
  clear hrq htq hb
  obtain ⟨p0, p1, p2, p3, p4, p5, p6, p7, p8, p9⟩ := cells10 gT
  go_wp2
  go_ret
  exact ⟨rfl, hB⟩
set_option maxRecDepth 100000 in
set_option maxHeartbeats 2000000 in
theorem depth_no {w0 W : World} {O : Nat → Prop} {x ad S n : Nat} {g : Nat → Nat} {σ : Nat → Option Sl} {fs ct : Nat} (h : TrS w0 W O x ad S n g σ fs ct) {p : Nat} (hlt : p < 18446744073709551616) (hz : Zr g p) (hp : σ p = none) :
    Calls Tryd.prog 12 #[.pointer (some ⟨x, 0, none⟩), .int .u64 (p : Nat)] W fun e w' => e = .returned (.int .i64 (-1)) ∧ Below W.heap.size W w' := by
  have cH := fun (w1 : World) (hb : Below W.heap.size W w1) => held_no (h.below hb) hlt hp hz
  have hE : ¬ heE S p = 0 := he_ne
  have hB := Below.refl W.heap.size W
  generalize heE S p = E at *
  have dE : ((E : Int) != 0) = true := by rw [bne_iff_ne]; exact hE
  clear h hz hlt hE hp
  go_enter Tryd.func12, Tryd.ntmps12
  go_wp2_with fail
  refine (cH _ hB).mono ?_
  rintro e w1 ⟨rfl, hb⟩
  replace hB := below_tr hB hb
  have hRT := hB.size
  have gT := Hid.mk (heap_alloc_new w1 (.cells #[.int .i64 0, .int .u64 0, .int .i64 0, .int .i64 0, .int .i64 0, .int .i64 0, .int .u64 0, .int .u64 0, .int .u64 0, .int .i64 0] 61))
  replace hB := below_tr hB (below_new w1 (.cells #[.int .i64 0, .int .u64 0, .int .i64 0, .int .i64 0, .int .i64 0, .int .i64 0, .int .u64 0, .int .u64 0, .int .u64 0, .int .i64 0] 61))
  go_upto_region 2 with (first
    | (refine wpList_store_segTo rfl 61 _ _ rfl rfl (w1.heap.size) 0 _ Z10 rfl rfl rfl 61 _ (gT.out) (by rw [z10]; exact Nat.le_refl 10) (info10.trans (congrArg some z10.symm)) z1 Z10 (segA_all _ _ (by rw [z10]; rfl)) ?_; intro wq hrq htq)
    | fail)
  replace gT := hrq
  replace hB := below_turn hB htq hRT
  clear hrq htq hb
  go_wp2
  go_ret
  exact ⟨rfl, hB⟩
set_option maxRecDepth 100000 in
set_option maxHeartbeats 2000000 in
theorem count_c {w0 W : World} {O : Nat → Prop} {x ad S n : Nat} {g : Nat → Nat} {σ : Nat → Option Sl} {fs ct : Nat} (h : TrS w0 W O x ad S n g σ fs ct) :
    Calls Tryd.prog 8 #[.pointer (some ⟨x, 0, none⟩)] W fun e w' => e = .returned (.int .i64 (ct : Nat)) ∧ Below W.heap.size W w' := by
  have k2 := h.c2
  have hB := Below.refl W.heap.size W
  clear h
  go_enter Tryd.func8, Tryd.ntmps8
  go_wp2
  go_ret
  exact ⟨rfl, hB⟩
set_option maxRecDepth 100000 in
set_option maxHeartbeats 2000000 in
theorem tnew_c (ad : Nat) (W : World) :
    Calls Tryd.prog 23 #[.pointer (some ⟨ad, 0, none⟩)] W fun e w' => e = .returned (.pointer (some ⟨W.heap.size, 0, none⟩)) ∧ w'.heap[W.heap.size]? = some (.cells #[.pointer (some ⟨ad, 0, none⟩), .int .u64 (0 : Nat), .int .i64 (0 : Nat)] 59 (0, 0)) ∧ Below W.heap.size W w' := by
  go_enter Tryd.func23, Tryd.ntmps23
  go_wp2_with fail
  go_ret
  exact ⟨rfl, heap_alloc_new _ _, below_new _ _⟩
end TE
end Go.Proofs.YtcmndefjmhcbhaaDoor

/- Steps of a tree as steps of a list: Root, Child, Set, Move, Swap. -/
set_option linter.unusedVariables false
namespace Go.Proofs.YtcmndefjmhcbhaaDoor
open Go.RowKit
namespace TE

theorem TrL.keep {w0 W : World} {O : Nat → Prop} {x ad S n : Nat} {g : Nat → Nat} {L : List Nd} (h : TrL w0 W O x ad S n g L) {W' : World} (hb : Below W.heap.size W W') (k : Nat) : NxL w0 W O x ad S (n + k) g L W' := ⟨((NxS.start h.1).later hb).mono (Nat.le_add_right _ _), h.2⟩
theorem Wf.ne {S : Nat} {L : List Nd} (h : Wf S L) : ∀ n ∈ L, n.p ≠ 0 := fun n hn e => h.z (e ▸ mem_psI hn)
theorem Wf.lnk {S : Nat} {L : List Nd} (hS : 65536 ≤ S ∧ S ≤ 4294967296 ∧ S % 4096 = 0) (h : Wf S L) {z : Nat} (hz : z = 0 ∨ z ∈ ps L) : z < 4294967296 ∧ z % 32 = 0 := by
  rcases hz with c | c
  · subst c; exact ⟨by decide, rfl⟩
  · obtain ⟨n, hn, e⟩ := mem_ps c
    have := sE_ok (h.al n hn).1
    rw [e] at this; omega
theorem hd_or (B : List Nd) : hd B 0 = 0 ∨ hd B 0 ∈ ps B := by
  cases B with
  | nil => exact Or.inl rfl
  | cons n B => exact Or.inr (by rw [ps_cons]; exact List.mem_cons_self ..)
theorem lst_or (A : List Nd) : lst 0 A = 0 ∨ lst 0 A ∈ ps A := by
  by_cases h : A = []
  · subst h; exact Or.inl rfl
  · exact Or.inr (lst_mem 0 h)
theorem ps_mid (A B : List Nd) (n : Nd) (z : Nat) : z ∈ ps (A ++ n :: B) ↔ z ∈ ps A ∨ z = n.p ∨ z ∈ ps B := by rw [ps_app, List.mem_append, ps_cons, List.mem_cons]
theorem up_or {L : List Nd} {z : Nat} (hz : z = 0 ∨ z ∈ ps L) (y : Nat) (s : Sl) : z = 0 ∨ ∃ t, up (sg 0 L 0) y (some s) z = some t := by
  rcases hz with c | c
  · exact Or.inl c
  · refine Or.inr ?_
    rw [up_z]
    by_cases e : z = y
    · rw [if_pos e]; exact ⟨_, rfl⟩
    · rw [if_neg e]; exact sg_some c 0 0
theorem sg_no {L : List Nd} {y : Nat} (h : sg 0 L 0 y = none) : y ∉ ps L := fun c => by
  obtain ⟨s, e⟩ := sg_some c 0 0
  rw [h] at e; cases e
theorem fr_ok {S : Nat} {L : List Nd} {y : Nat} (h : frE S (sg 0 L 0) y = 0) : sE S y = 0 ∧ y ≠ 0 ∧ y ∉ ps L := by
  unfold frE at h
  by_cases y0 : y = 0
  · rw [if_pos y0] at h; cases h
  · rw [if_neg y0] at h
    by_cases hs : sE S y = 0
    · rw [if_pos hs] at h
      refine ⟨hs, y0, fun c => ?_⟩
      obtain ⟨s, q⟩ := sg_some c 0 0
      rw [q] at h; cases h
    · rw [if_neg hs] at h; exact absurd h hs
theorem Wf.chg {S : Nat} {A B : List Nd} {n m : Nd} (h : Wf S (A ++ n :: B)) (hp : m.p = n.p) (hf : Fit m.c) (hd : m.d ≤ 4096) : Wf S (A ++ m :: B) := by
  have e : ps (A ++ m :: B) = ps (A ++ n :: B) := by rw [ps_app, ps_app, ps_cons, ps_cons, hp]
  refine ⟨e ▸ h.nd, e ▸ h.z, fun k hk => ?_⟩
  rcases List.mem_append.1 hk with c | c
  · exact h.al k (by simp [c])
  · rcases List.mem_cons.1 c with c | c
    · subst c; exact ⟨hp ▸ (h.al n (by simp)).1, hf, hd⟩
    · exact h.al k (by simp [c])
theorem Wf.mov {S : Nat} {A B : List Nd} {n m : Nd} (h : Wf S (A ++ n :: B)) (h1 : sE S m.p = 0) (h2 : m.p ≠ 0) (h3 : m.p ∉ ps (A ++ n :: B)) (hc : m.c = n.c) (hd : m.d = n.d) : Wf S (A ++ m :: B) := by
  have hn := h.nd
  have hz := h.z
  rw [ps_mid] at h3 hz
  refine ⟨?_, ?_, fun k hk => ?_⟩
  · rw [ps_app, ps_cons, List.nodup_append, List.nodup_cons] at hn ⊢
    refine ⟨hn.1, ⟨fun c => h3 (Or.inr (Or.inr c)), hn.2.1.2⟩, fun a ha b hb => ?_⟩
    rcases List.mem_cons.1 hb with c | c
    · intro e; exact h3 (Or.inl (by rw [← c, ← e]; exact ha))
    · exact hn.2.2 a ha b (List.mem_cons_of_mem _ c)
  · rw [ps_mid]; rintro (c | c | c)
    · exact hz (Or.inl c)
    · exact h2 c.symm
    · exact hz (Or.inr (Or.inr c))
  · rcases List.mem_append.1 hk with c | c
    · exact h.al k (by simp [c])
    · rcases List.mem_cons.1 c with c | c
      · subst c; exact ⟨h1, hc ▸ (h.al n (by simp)).2.1, hd ▸ (h.al n (by simp)).2.2⟩
      · exact h.al k (by simp [c])
theorem Wf.rem {S : Nat} {A B : List Nd} {n : Nd} (h : Wf S (A ++ n :: B)) : Wf S (A ++ B) := by
  have hn := h.nd
  have hz := h.z
  rw [ps_mid] at hz
  refine ⟨?_, ?_, fun k hk => h.al k ?_⟩
  · rw [ps_app, ps_cons, List.nodup_append, List.nodup_cons] at hn
    rw [ps_app, List.nodup_append]
    exact ⟨hn.1, hn.2.1.2, fun a ha b hb => hn.2.2 a ha b (List.mem_cons_of_mem _ hb)⟩
  · rw [ps_app, List.mem_append]; rintro (c | c)
    · exact hz (Or.inl c)
    · exact hz (Or.inr (Or.inr c))
  · rcases List.mem_append.1 hk with c | c
    · simp [c]
    · simp [c]
theorem Wf.swp {S : Nat} {A B C : List Nd} {n1 n2 : Nd} (h : Wf S (A ++ n1 :: (B ++ n2 :: C))) : Wf S (A ++ { n1 with p := n2.p } :: (B ++ { n2 with p := n1.p } :: C)) := by
  have hn := h.nd
  have hz := h.z
  refine ⟨?_, ?_, fun k hk => ?_⟩
  · simp only [ps_app, ps_cons] at hn ⊢
    have hp : (ps A ++ n2.p :: (ps B ++ n1.p :: ps C)).Perm (ps A ++ n1.p :: (ps B ++ n2.p :: ps C)) := by
      refine List.Perm.append_left _ ?_
      refine (List.perm_middle (l₁ := n2.p :: ps B) (a := n1.p) (l₂ := ps C)).trans ?_
      refine List.Perm.cons _ ?_
      exact (List.perm_middle (l₁ := ps B) (a := n2.p) (l₂ := ps C)).symm
    exact hp.nodup_iff.2 hn
  · simp only [ps_app, ps_cons, List.mem_append, List.mem_cons] at hz ⊢
    rintro (c | c | c | c | c)
    · exact hz (Or.inl c)
    · exact hz (Or.inr (Or.inr (Or.inr (Or.inl c))))
    · exact hz (Or.inr (Or.inr (Or.inl c)))
    · exact hz (Or.inr (Or.inl c))
    · exact hz (Or.inr (Or.inr (Or.inr (Or.inr c))))
  · have a1 := h.al n1 (by simp)
    have a2 := h.al n2 (by simp)
    rcases List.mem_append.1 hk with c | c
    · exact h.al k (by simp [c])
    · rcases List.mem_cons.1 c with c | c
      · subst c; exact ⟨a2.1, a1.2.1, a1.2.2⟩
      · rcases List.mem_append.1 c with c | c
        · exact h.al k (by simp [c])
        · rcases List.mem_cons.1 c with c | c
          · subst c; exact ⟨a1.1, a2.2.1, a2.2.2⟩
          · exact h.al k (by simp [c])
set_option maxHeartbeats 1000000 in
theorem root_l {w0 W : World} {O : Nat → Prop} {x ad S n : Nat} {g : Nat → Nat} {L : List Nd} (h : TrL w0 W O x ad S n g L) (hn : n + 20 < 100000000) {y : Nat} (hlt : y < 18446744073709551616) (hz : Zr g y) {c : Cg} (hc : c.Ok) :
    Calls Tryd.prog 21 #[.pointer (some ⟨x, 0, none⟩), .int .u64 (y : Nat), .agg c.row] W fun e w' => e = .returned (.int .i64 (maE S (sg 0 L 0) y L.length c.ft)) ∧ NxL w0 W O x ad S (n + 20) g (if maE S (sg 0 L 0) y L.length c.ft = 0 then ⟨y, c.cp, 0⟩ :: L else L) w' := by
  by_cases hE : maE S (sg 0 L 0) y L.length c.ft = 0
  · rw [if_pos hE, hE]
    have hB := (ma_ok h.2 hE).2.2.2.1
    obtain ⟨hf, hr⟩ := Cg.fit hc.hm hB
    rw [hr]
    rw [hB] at hE
    exact root_ok h hn hlt hz hf hE
  · rw [if_neg hE]
    exact (root_no h.1 hlt hz c.k c.a c.b c.r c.q c.s c.m hc.ha hc.hm hE).mono fun e w' hh => ⟨hh.1, h.keep hh.2 20⟩
def chE (S : Nat) (L : List Nd) (p y : Nat) (f : Bool) : Int := match fnd p L with | none => heE S p | some t => if maE S (sg 0 L 0) y L.length f = 0 then (if t.d = 4096 then 42 else 0) else maE S (sg 0 L 0) y L.length f
set_option maxHeartbeats 1000000 in
theorem child_l {w0 W : World} {O : Nat → Prop} {x ad S n : Nat} {g : Nat → Nat} {L : List Nd} (h : TrL w0 W O x ad S n g L) (hn : n + 20 < 100000000) {p y : Nat} (hlp : p < 18446744073709551616) (hzp : Zr g p) (hlt : y < 18446744073709551616) (hz : Zr g y) {c : Cg} (hc : c.Ok) :
    Calls Tryd.prog 9 #[.pointer (some ⟨x, 0, none⟩), .int .u64 (p : Nat), .int .u64 (y : Nat), .agg c.row] W fun e w' => e = .returned (.int .i64 (chE S L p y c.ft)) ∧ NxL w0 W O x ad S (n + 20) g (if chE S L p y c.ft = 0 then insA p y c.cp L else L) w' := by
  obtain ⟨h1, h2⟩ := id h
  have hS := h1.sm
  by_cases hp : p ∈ ps L
  · obtain ⟨A, t, B, rfl, rfl, hA⟩ := part_at hp
    have hs := sg_at h2.nd
    have hcd : chE S (A ++ t :: B) t.p y c.ft = if maE S (sg 0 (A ++ t :: B) 0) y (A ++ t :: B).length c.ft = 0 then (if t.d = 4096 then 42 else 0) else maE S (sg 0 (A ++ t :: B) 0) y (A ++ t :: B).length c.ft := by unfold chE; rw [fnd_at hA]
    rw [hcd]
    by_cases hE : maE S (sg 0 (A ++ t :: B) 0) y (A ++ t :: B).length c.ft = 0
    · rw [if_pos hE]
      obtain ⟨e1, e2, e3, hB, -⟩ := ma_ok h2 hE
      obtain ⟨hf, hr⟩ := Cg.fit hc.hm hB
      rw [hr]
      have cM : ∀ w1, Below W.heap.size W w1 → Calls Tryd.prog 27 #[.pointer (some ⟨x, 0, none⟩), .int .u64 (y : Nat), .agg c.cp.row] w1 fun e w' => e = .returned (.int .i64 0) ∧ Below w1.heap.size w1 w' := fun w1 hb => by
        have := mayAdd_c (h1.below hb) hlt hz c.k c.a c.b c.r c.q c.s c.m hc.ha hc.hm
        rw [show ftB c.k c.a c.b c.r c.q c.s c.m = c.ft from rfl, hE] at this
        rw [← hr]; exact this
      by_cases h4 : t.d = 4096
      · rw [if_pos h4, if_neg (by decide)]
        exact (child_no3 h1 hs cM h4).mono fun e w' hh => ⟨hh.1, h.keep hh.2 20⟩
      · rw [if_neg h4, if_pos rfl, insA_at hA]
        have hd2 := (h2.al t (by simp)).2.2
        have e3' := e3
        rw [show A ++ t :: B = (A ++ [t]) ++ B by simp] at e3'
        have h2' : Wf S ((A ++ [t]) ++ B) := by simpa using h2
        have hI := lay_ins (A := A ++ [t]) (B := B) (m := ⟨y, c.cp, t.d + 1⟩) (fun k hk => h2'.ne k (List.mem_append.2 (Or.inl hk))) e2 h2'.nd e3' h2'.z
        have hW := h2'.ins (m := ⟨y, c.cp, t.d + 1⟩) e1 e2 e3' hf (by show t.d + 1 ≤ 4096; omega)
        have eL : lst 0 (A ++ [t]) = t.p := by rw [lst_app]; rfl
        rw [eL] at hI
        simp only [List.append_assoc, List.cons_append, List.nil_append] at hI hW
        refine (child_mk h1 hs cM (fun w1 hw => ?_) h4 hd2).mono fun e w' hh => ⟨hh.1, hh.2, hW⟩
        have lB : hd B 0 = 0 ∨ hd B 0 ∈ ps (A ++ t :: B) := by
          rcases hd_or B with c | c
          · exact Or.inl c
          · exact Or.inr ((ps_mid A B t _).2 (Or.inr (Or.inr c)))
        have lT : t.p = 0 ∨ t.p ∈ ps (A ++ t :: B) := Or.inr hp
        have := add_c hw hn (by have := (ma_ok h2 hE).2.2.2.2; omega) e1 e2 (s := ⟨c.cp, hd B 0, t.p, t.d + 1⟩) ⟨hf, h2.lnk hS lB, h2.lnk hS lT, by show t.d + 1 ≤ 4096; omega⟩ (up_or lT _ _) (up_or lB _ _)
        rw [hI.1, hI.2] at this
        have ec : (A ++ t :: ⟨y, c.cp, t.d + 1⟩ :: B).length = (A ++ t :: B).length + 1 := by simp; omega
        rw [ec]
        exact this
    · rw [if_neg hE, if_neg hE]
      exact (child_no2 h1 hlt hz hs c.k c.a c.b c.r c.q c.s c.m hc.ha hc.hm hE).mono fun e w' hh => ⟨hh.1, h.keep hh.2 20⟩
  · have hcd : chE S L p y c.ft = heE S p := by unfold chE; rw [fnd_none hp]
    rw [hcd, if_neg he_ne]
    exact (child_no1 h1 hlp hzp (sg_none hp 0 0) c.k c.a c.b c.r c.q c.s c.m hc.ha hc.hm).mono fun e w' hh => ⟨hh.1, h.keep hh.2 20⟩
def stE (S : Nat) (L : List Nd) (p : Nat) (f : Bool) : Int := match fnd p L with | none => heE S p | some t => if f = true then 0 else 10
set_option maxHeartbeats 1000000 in
theorem set_l {w0 W : World} {O : Nat → Prop} {x ad S n : Nat} {g : Nat → Nat} {L : List Nd} (h : TrL w0 W O x ad S n g L) (hn : n + 4 < 100000000) {p : Nat} (hlp : p < 18446744073709551616) (hzp : Zr g p) {c : Cg} (hc : c.Ok) :
    Calls Tryd.prog 24 #[.pointer (some ⟨x, 0, none⟩), .int .u64 (p : Nat), .agg c.row] W fun e w' => e = .returned (.int .i64 (stE S L p c.ft)) ∧ NxL w0 W O x ad S (n + 4) g (if stE S L p c.ft = 0 then setL p c.cp L else L) w' := by
  obtain ⟨h1, h2⟩ := id h
  by_cases hp : p ∈ ps L
  · obtain ⟨A, t, B, rfl, rfl, hA⟩ := part_at hp
    have hs := sg_at h2.nd
    have hcd : stE S (A ++ t :: B) t.p c.ft = if c.ft = true then 0 else 10 := by unfold stE; rw [fnd_at hA]
    rw [hcd]
    by_cases hB : c.ft = true
    · rw [if_pos hB, if_pos rfl, setL_at h2.nd]
      obtain ⟨hf, hr⟩ := Cg.fit hc.hm hB
      rw [hr]
      have := set_mk h1 hn hs hf
      rw [setC_ok c.cp h2.nd] at this
      refine this.mono fun e w' hh => ⟨hh.1, ?_, h2.chg (m := { t with c := c.cp }) rfl hf (h2.al t (by simp)).2.2⟩
      have e1 : hd (A ++ { t with c := c.cp } :: B) 0 = hd (A ++ t :: B) 0 := by rw [hd_app, hd_app]; rfl
      have e2 : (A ++ { t with c := c.cp } :: B).length = (A ++ t :: B).length := by simp
      rw [e1, e2]
      exact hh.2
    · rw [if_neg hB, if_neg (by decide)]
      exact (set_no2 h1 hs c.k c.a c.b c.r c.q c.s c.m hc.ha hc.hm (Bool.eq_false_iff.2 hB)).mono fun e w' hh => ⟨hh.1, h.keep hh.2 4⟩
  · have hcd : stE S L p c.ft = heE S p := by unfold stE; rw [fnd_none hp]
    rw [hcd, if_neg he_ne]
    exact (set_no1 h1 hlp hzp (sg_none hp 0 0) c.k c.a c.b c.r c.q c.s c.m hc.ha hc.hm).mono fun e w' hh => ⟨hh.1, h.keep hh.2 4⟩
def mvE (S : Nat) (L : List Nd) (p y : Nat) : Int := match fnd p L with | none => heE S p | some t => frE S (sg 0 L 0) y
set_option maxHeartbeats 1000000 in
theorem move_l {w0 W : World} {O : Nat → Prop} {x ad S n : Nat} {g : Nat → Nat} {L : List Nd} (h : TrL w0 W O x ad S n g L) (hn : n + 24 < 100000000) {p y : Nat} (hlp : p < 18446744073709551616) (hzp : Zr g p) (hlt : y < 18446744073709551616) (hz : Zr g y) :
    Calls Tryd.prog 14 #[.pointer (some ⟨x, 0, none⟩), .int .u64 (p : Nat), .int .u64 (y : Nat)] W fun e w' => e = .returned (.int .i64 (mvE S L p y)) ∧ NxL w0 W O x ad S (n + 24) g (if mvE S L p y = 0 then movL p y L else L) w' := by
  obtain ⟨h1, h2⟩ := id h
  by_cases hp : p ∈ ps L
  · obtain ⟨A, t, B, rfl, rfl, hA⟩ := part_at hp
    have hs := sg_at h2.nd
    have hcd : mvE S (A ++ t :: B) t.p y = frE S (sg 0 (A ++ t :: B) 0) y := by unfold mvE; rw [fnd_at hA]
    rw [hcd]
    by_cases hE : frE S (sg 0 (A ++ t :: B) 0) y = 0
    · rw [if_pos hE, hE, movL_at h2.nd]
      obtain ⟨e1, e2, e3⟩ := fr_ok hE
      have hI := move_ok (fun k hk => h2.ne k (by simp [hk])) e2 h2.nd e3 h2.z
      have lB : hd B 0 = 0 ∨ hd B 0 ∈ ps (A ++ t :: B) := by
        rcases hd_or B with c | c
        · exact Or.inl c
        · exact Or.inr ((ps_mid A B t _).2 (Or.inr (Or.inr c)))
      have lA : lst 0 A = 0 ∨ lst 0 A ∈ ps (A ++ t :: B) := by
        rcases lst_or A with c | c
        · exact Or.inl c
        · exact Or.inr ((ps_mid A B t _).2 (Or.inl c))
      have := move_mk h1 hn hlt hz hzp hs hE e1 e2 (up_or lA _ _) (up_or lB _ _)
      rw [hI.1, hI.2] at this
      refine this.mono fun e w' hh => ⟨hh.1, ?_, h2.mov (m := { t with p := y }) e1 e2 e3 rfl rfl⟩
      have e2 : (A ++ { t with p := y } :: B).length = (A ++ t :: B).length := by simp
      rw [e2]
      exact hh.2
    · rw [if_neg hE]
      exact (move_no2 h1 hlt hz hs hE).mono fun e w' hh => ⟨hh.1, h.keep hh.2 24⟩
  · have hcd : mvE S L p y = heE S p := by unfold mvE; rw [fnd_none hp]
    rw [hcd, if_neg he_ne]
    exact (move_no1 h1 hlp hzp (sg_none hp 0 0)).mono fun e w' hh => ⟨hh.1, h.keep hh.2 24⟩
def swE (S : Nat) (L : List Nd) (a b : Nat) : Int := match fnd a L with | none => heE S a | some _ => (match fnd b L with | none => heE S b | some _ => 0)
theorem lay_l {fs1 ct n1 : Nat} {σ1 : Nat → Option Sl} {w0 w1 : World} {O1 : Nat → Prop} {x ad S : Nat} {g : Nat → Nat} (h : TrS w0 w1 O1 x ad S n1 g σ1 fs1 ct) (hn : n1 + 20 < 100000000) {L : List Nd} (hS : 65536 ≤ S ∧ S ≤ 4294967296 ∧ S % 4096 = 0) (h2 : Wf S L) (hσ : ∀ z, z ∈ ps L → ∃ t, σ1 z = some t) {y : Nat} (hy : y ∈ ps L) {s : Sl} (hf : Fit s.c) (hd : s.d ≤ 4096) (hx : s.nx = 0 ∨ s.nx ∈ ps L) (hp : s.pv = 0 ∨ s.pv ∈ ps L) :
    Calls Tryd.prog 32 #[.pointer (some ⟨x, 0, none⟩), .int .u64 (y : Nat), .agg s.row] w1 fun e w' => e = .returned (.tuple #[]) ∧ NxS w0 w1 O1 x ad S (n1 + 20) g (lyS y s σ1) (lyF y s fs1) ct w' := by
  obtain ⟨m, hm, rfl⟩ := mem_ps hy
  have ex : ∀ z, z = 0 ∨ z ∈ ps L → z = 0 ∨ ∃ t, up σ1 m.p (some s) z = some t := fun z c => by
    rcases c with c | c
    · exact Or.inl c
    · refine Or.inr ?_
      rw [up_z]
      by_cases e : z = m.p
      · rw [if_pos e]; exact ⟨_, rfl⟩
      · rw [if_neg e]; exact hσ z c
  exact lay_c h hn (h2.al m hm).1 (h2.ne m hm) ⟨hf, h2.lnk hS hx, h2.lnk hS hp, hd⟩ (ex _ hp) (ex _ hx)
theorem lyS_ex {f : Nat → Option Sl} {z : Nat} (h : ∃ t, f z = some t) (y : Nat) (s : Sl) : ∃ t, lyS y s f z = some t := by
  unfold lyS
  refine jnS_ex (jnS_ex ?_ _ _) _ _
  rw [up_z]
  by_cases e : z = y
  · rw [if_pos e]; exact ⟨_, rfl⟩
  · rw [if_neg e]; exact h
theorem tn_or {L : List Nd} {a b z : Nat} (ha : a ∈ ps L) (hb : b ∈ ps L) (hz : z = 0 ∨ z ∈ ps L) : tn a b z = 0 ∨ tn a b z ∈ ps L := by
  unfold tn
  by_cases c : z = a
  · rw [if_pos c]; exact Or.inr hb
  · rw [if_neg c]
    by_cases d : z = b
    · rw [if_pos d]; exact Or.inr ha
    · rw [if_neg d]; exact hz
set_option maxHeartbeats 2000000 in
theorem swap_l {w0 W : World} {O : Nat → Prop} {x ad S n : Nat} {g : Nat → Nat} {L : List Nd} (h : TrL w0 W O x ad S n g L) (hn : n + 40 < 100000000) {a b : Nat} (hla : a < 18446744073709551616) (hza : Zr g a) (hlb : b < 18446744073709551616) (hzb : Zr g b) :
    Calls Tryd.prog 25 #[.pointer (some ⟨x, 0, none⟩), .int .u64 (a : Nat), .int .u64 (b : Nat)] W fun e w' => e = .returned (.int .i64 (swE S L a b)) ∧ NxL w0 W O x ad S (n + 40) g (if swE S L a b = 0 then swpL a b L else L) w' := by
  obtain ⟨h1, h2⟩ := id h
  have hS := h1.sm
  by_cases ha : a ∈ ps L
  · by_cases hb : b ∈ ps L
    · have hcd : swE S L a b = 0 := by
        obtain ⟨A, t, B, rfl, rfl, hA⟩ := part_at ha
        obtain ⟨A2, t2, B2, e, rfl, hA2⟩ := part_at hb
        unfold swE
        rw [fnd_at hA, e, fnd_at hA2]
      rw [hcd, if_pos rfl]
      have hσ : ∀ z, z ∈ ps L → ∃ t, sg 0 L 0 z = some t := fun z c => sg_some c 0 0
      -- what both ways share
      have go : ∀ (t u : Sl), sg 0 L 0 a = some t → sg 0 L 0 b = some u → (t.nx = 0 ∨ t.nx ∈ ps L) → (t.pv = 0 ∨ t.pv ∈ ps L) → (u.nx = 0 ∨ u.nx ∈ ps L) → (u.pv = 0 ∨ u.pv ∈ ps L) →
          Calls Tryd.prog 25 #[.pointer (some ⟨x, 0, none⟩), .int .u64 (a : Nat), .int .u64 (b : Nat)] W fun e w' => e = .returned (.int .i64 0) ∧ NxS w0 W O x ad S (n + 40) g (lyS b (tnS a b t) (lyS a (tnS a b u) (sg 0 L 0))) (lyF b (tnS a b t) (lyF a (tnS a b u) (hd L 0))) L.length w' := by
        intro t u ht hu q1 q2 q3 q4
        have g1 := (h1.good ht).1
        have g2 := (h1.good hu).1
        refine swap_mk (σ1 := lyS a (tnS a b u) (sg 0 L 0)) (fs1 := lyF a (tnS a b u) (hd L 0)) h1 ht hu (fun w1 hb1 => ?_) (fun w1 O1 hw => ?_)
        · exact lay_l (h1.below hb1) (by omega) hS h2 hσ ha (s := tnS a b u) g2.ft g2.hd (tn_or ha hb q3) (tn_or ha hb q4)
        · exact lay_l hw (by omega) hS h2 (fun z c => lyS_ex (hσ z c) _ _) hb (s := tnS a b t) g1.ft g1.hd (tn_or ha hb q1) (tn_or ha hb q2)
      by_cases hab : a = b
      · subst hab
        obtain ⟨A, t, B, rfl, rfl, hA⟩ := part_at ha
        have lB : hd B 0 = 0 ∨ hd B 0 ∈ ps (A ++ t :: B) := by
          rcases hd_or B with c | c
          · exact Or.inl c
          · exact Or.inr ((ps_mid A B t _).2 (Or.inr (Or.inr c)))
        have lA : lst 0 A = 0 ∨ lst 0 A ∈ ps (A ++ t :: B) := by
          rcases lst_or A with c | c
          · exact Or.inl c
          · exact Or.inr ((ps_mid A B t _).2 (Or.inl c))
        have hs := sg_at h2.nd
        have := go _ _ hs hs lB lA lB lA
        have hI := lay_self (fun k hk => h2.ne k (by simp [hk])) h2.nd h2.z
        have et : ∀ s : Sl, tnS t.p t.p s = s := fun s => by unfold tnS; rw [tn_self, tn_self]
        rw [et, hI.1, hI.1, hI.2, hI.2] at this
        rw [swpL_self]
        exact this.mono fun e w' hh => ⟨hh.1, hh.2, h2⟩
      · obtain ⟨A, t, B, rfl, rfl, hA⟩ := part_at ha
        rcases (ps_mid A B t b).1 hb with c | c | c
        · obtain ⟨A1, u, B1, rfl, rfl, hA1⟩ := part_at c
          have eL : A1 ++ u :: B1 ++ t :: B = A1 ++ u :: (B1 ++ t :: B) := by simp
          rw [eL] at h1 h2 hσ ha hb hcd go ⊢
          have hsu := sg_at h2.nd
          have hst := sg_at (A := A1 ++ u :: B1) (B := B) (n := t) (by rw [eL]; exact h2.nd)
          rw [eL] at hst
          have eh : hd (B1 ++ t :: B) 0 = hd B1 t.p := by rw [hd_app]; rfl
          have el : lst 0 (A1 ++ u :: B1) = lst u.p B1 := by rw [lst_app]; rfl
          rw [eh] at hsu
          rw [el] at hst
          have hI := swap2 (fun k hk => h2.ne k (by simp [hk])) h2.nd h2.z
          have := go _ _ hst hsu ?_ ?_ ?_ ?_
          · rw [(swpL_at h2.nd).2]
            unfold tnS at this
            rw [hI.1, hI.2] at this
            refine this.mono fun e w' hh => ⟨hh.1, ?_, h2.swp⟩
            have e2 : (A1 ++ { u with p := t.p } :: (B1 ++ { t with p := u.p } :: B)).length = (A1 ++ u :: (B1 ++ t :: B)).length := by simp
            rw [e2]
            exact hh.2
          · rcases hd_or B with c | c
            · exact Or.inl c
            · exact Or.inr (by simp only [ps_app, ps_cons, List.mem_append, List.mem_cons]; exact Or.inr (Or.inr (Or.inr (Or.inr c))))
          · show lst u.p B1 = 0 ∨ lst u.p B1 ∈ _
            cases B1 with
            | nil => exact Or.inr (by simp [ps_app, ps_cons, lst])
            | cons k B1 => exact Or.inr (by have := lst_mem (A := k :: B1) u.p (by simp); simp only [ps_app, ps_cons, List.mem_append, List.mem_cons] at this ⊢; exact Or.inr (Or.inr (Or.inl this)))
          · show hd B1 t.p = 0 ∨ hd B1 t.p ∈ _
            cases B1 with
            | nil => exact Or.inr (by simp [ps_app, ps_cons, hd])
            | cons k B1 => exact Or.inr (by simp [ps_app, ps_cons, hd])
          · rcases lst_or A1 with c | c
            · exact Or.inl c
            · exact Or.inr (by simp only [ps_app, ps_cons, List.mem_append, List.mem_cons]; exact Or.inl c)
        · exact absurd c.symm hab
        · obtain ⟨A1, u, B1, rfl, rfl, hA1⟩ := part_at c
          have hst := sg_at h2.nd
          have eL : (A ++ t :: A1) ++ u :: B1 = A ++ t :: (A1 ++ u :: B1) := by simp
          have hsu := sg_at (A := A ++ t :: A1) (B := B1) (n := u) (by rw [eL]; exact h2.nd)
          rw [eL] at hsu
          have eh : hd (A1 ++ u :: B1) 0 = hd A1 u.p := by rw [hd_app]; rfl
          have el : lst 0 (A ++ t :: A1) = lst t.p A1 := by rw [lst_app]; rfl
          rw [eh] at hst
          rw [el] at hsu
          have hI := swap1 (fun k hk => h2.ne k (by simp [hk])) h2.nd h2.z
          have := go _ _ hst hsu ?_ ?_ ?_ ?_
          · rw [(swpL_at h2.nd).1]
            unfold tnS at this
            rw [hI.1, hI.2] at this
            refine this.mono fun e w' hh => ⟨hh.1, ?_, h2.swp⟩
            have e2 : (A ++ { t with p := u.p } :: (A1 ++ { u with p := t.p } :: B1)).length = (A ++ t :: (A1 ++ u :: B1)).length := by simp
            rw [e2]
            exact hh.2
          · show hd A1 u.p = 0 ∨ hd A1 u.p ∈ _
            cases A1 with
            | nil => exact Or.inr (by simp [ps_app, ps_cons, hd])
            | cons k A1 => exact Or.inr (by simp [ps_app, ps_cons, hd])
          · rcases lst_or A with c | c
            · exact Or.inl c
            · exact Or.inr (by simp only [ps_app, ps_cons, List.mem_append, List.mem_cons]; exact Or.inl c)
          · rcases hd_or B1 with c | c
            · exact Or.inl c
            · exact Or.inr (by simp only [ps_app, ps_cons, List.mem_append, List.mem_cons]; exact Or.inr (Or.inr (Or.inr (Or.inr c))))
          · show lst t.p A1 = 0 ∨ lst t.p A1 ∈ _
            cases A1 with
            | nil => exact Or.inr (by simp [ps_app, ps_cons, lst])
            | cons k A1 => exact Or.inr (by have := lst_mem (A := k :: A1) t.p (by simp); simp only [ps_app, ps_cons, List.mem_append, List.mem_cons] at this ⊢; exact Or.inr (Or.inr (Or.inl this)))
    · have hcd : swE S L a b = heE S b := by
        obtain ⟨A, t, B, rfl, rfl, hA⟩ := part_at ha
        unfold swE
        rw [fnd_at hA, fnd_none hb]
      rw [hcd, if_neg he_ne]
      obtain ⟨t, ht⟩ := sg_some ha 0 0
      exact (swap_no2 h1 hlb hzb ht (sg_none hb 0 0)).mono fun e w' hh => ⟨hh.1, h.keep hh.2 40⟩
  · have hcd : swE S L a b = heE S a := by unfold swE; rw [fnd_none ha]
    rw [hcd, if_neg he_ne]
    exact (swap_no1 h1 hla hza (sg_none ha 0 0)).mono fun e w' hh => ⟨hh.1, h.keep hh.2 40⟩
end TE
end Go.Proofs.YtcmndefjmhcbhaaDoor

/- Below. -/
set_option linter.unusedVariables false
namespace Go.Proofs.YtcmndefjmhcbhaaDoor
open Go.RowKit
namespace TE

attribute [local go_sem] Oper.semAt_some

theorem ens_app (p : Nat) (A B : List Nd) (q : Nat) : ens p (A ++ B) q = ens p A (hd B q) ++ ens (lst p A) B q := by
  induction A generalizing p with
  | nil => rfl
  | cons n A ih => show (⟨n.p, ⟨n.c, hd (A ++ B) q, p, n.d⟩⟩ : En) :: ens n.p (A ++ B) q = _; rw [ih, hd_app]; rfl
theorem ens_nd {p : Nat} {L : List Nd} {q : Nat} {e : En} (h : e ∈ ens p L q) : ∃ n ∈ L, e.p = n.p ∧ e.s.d = n.d ∧ e.s.c = n.c := by
  induction L generalizing p with
  | nil => cases h
  | cons n L ih =>
    rcases List.mem_cons.1 h with c | c
    · subst c; exact ⟨n, by simp, rfl, rfl, rfl⟩
    · obtain ⟨m, hm, h1⟩ := ih c
      exact ⟨m, by simp [hm], h1⟩
theorem ens_hd {p : Nat} {R : List Nd} {q : Nat} {e : En} {R' : List En} (h : ens p R q = e :: R') : ∃ m R2, R = m :: R2 ∧ e.s.d = m.d := by
  cases R with
  | nil => cases h
  | cons m R => exact ⟨m, R, rfl, by cases h; rfl⟩
theorem ens_in {A B : List Nd} {t : Nd} (hn : (ps (A ++ t :: B)).Nodup) {e : En} (h : e ∈ ens t.p B 0) : sg 0 (A ++ t :: B) 0 e.p = some e.s := by
  obtain ⟨nA, nX, dj⟩ := nd_app hn
  have nB := (List.nodup_cons.1 nX).2
  have nt : t.p ∉ ps B := (List.nodup_cons.1 nX).1
  obtain ⟨h1, h2⟩ := ens_mem h nB
  rw [sg_app, if_neg (fun c => dj e.p c (by rw [ps_cons]; simp [h1])), sg_cons, if_neg (fun c : e.p = t.p => nt (c ▸ h1))]
  exact h2
theorem ens_map (p : Nat) (L : List Nd) (q : Nat) : ((ens p L q).map fun e => Value.int .u64 (e.p : Nat)) = (ps L).map fun p => .int .u64 (p : Nat) := by rw [← ens_ps p L q, List.map_map]; rfl
set_option maxRecDepth 100000 in
set_option maxHeartbeats 2000000 in
theorem aseq_c (g : Nat) (lb : Array Value) (eg : ∀ args w, (callFunc g args).run Tryd.prog w = .ok (.enter g args) w) {Q Z0 : Nat → Prop} {Hd : List En → World → Prop} {L : List En} (hN : L.length ≤ 65536) {W : World}
    (hQ : ∀ i, Q i → i < W.heap.size) (hZ : ∀ i, Z0 i → i < W.heap.size ∧ ¬ Q i) (hseq : ∀ w', Below W.heap.size W w' → SeqT Fence.wide 8 Tryd.prog g lb (fun e : En => #[.int .u64 (e.p : Nat)]) Z0 Hd L w') (hHd : ∀ pre A, Turn (fun i => ¬ Q i) W A → Hd pre A) :
    Calls Tryd.prog 50 #[.slice none 0 0, .func (.func g) #[] lb] W fun e w' => ∃ v, e = .returned v ∧ w'.ownsRow W.heap.size 23 1 v L.length (L.map fun e => .int .u64 (e.p : Nat)) ∧ (v = .slice none 0 0 ↔ L = []) ∧ Turn Z0 W w' := by
  have g3 := heap_alloc_new W (.cells #[.slice none 0 0] 41)
  have hB := below_new W (.cells #[.slice none 0 0] 41)
  generalize eW : W.alloc (.cells #[.slice none 0 0] 41) = W0 at *
  refine (callsIn_wide (n := 9)).1 ?_
  refine callsIn_of_wp_marks Tryd.func50 rfl trivial ?_ rfl
  simp only [Tryd.ntmps50, List.size_toArray, List.length_cons, List.length_nil, Nat.reduceAdd, Nat.reduceSub, Array.replicate_succ, Array.replicate_zero, List.push_toArray, List.append_toArray, List.nil_append, List.cons_append]
  gi_wp2_with fail
  (try rw [eW])
  have hb3 := block_lt g3
  obtain ⟨i0, hi, hz0, hz1, hz2⟩ := info_parts info_w
  have hT2 : Turn (fun i => ¬ Q i) W W0 := turn_of_below _ hB
  refine rf_law rfl (by omega) (gf := g) (lb := lb) rfl trivial eg (hseq _ hB) (fun _ => rfl) (LI Q W W.heap.size) (fun _ _ _ _ => False)
    (fun _ _ _ q => q.lt hQ) (fun _ _ _ _ _ q ht hd => q.turn ht hd) (fun _ _ _ _ _ _ q _ _ => q.elim) ?hHd (fun i => Q i ∨ i = W.heap.size) ?h0 ?hZ ?hround ?hdone (fun _ _ _ _ _ _ _ q => q.elim)
  case hHd =>
    rintro pre Yt A ⟨v, -, ht, -⟩
    exact hHd pre A ht
  case h0 =>
    refine ⟨.slice none 0 0, fun i => ?_, hT2, g3, World.ownsRow_nil _ _ _ _, by simp⟩
    simp [Value.ownBlock]
  case hZ =>
    intro i c
    obtain ⟨q1, q2⟩ := hZ i c
    refine ⟨by omega, ?_⟩
    rintro (q | q)
    · exact q2 q
    · omega
  case hround =>
    rintro l' sz pre e rest Yt W' hLe hI hsz hl' nl'
    gi_wp2
    refine ⟨Below.refl _ _, fun W2 ht hI2 => ?_⟩
    have hBl : W.heap.size < W'.heap.size := by
      obtain ⟨v, f1, m2, m3, m4, m5⟩ := hI
      exact block_lt m3
    obtain ⟨v, f1, m2, m3, m4, m5⟩ := hI2
    have hc : W2.cell? ⟨W.heap.size, 0, none⟩ = some v := by rw [cell_of_row _ _ _ _ _ _ m3]; rfl
    have hpl : pre.length < 65536 := by
      have := congrArg List.length hLe
      simp at this; omega
    have hbs : W.heap.size + 1 ≤ W2.heap.size := block_lt m3
    gi_wp2_with (first
      | (gi_at_builtin; refine wpListIn_app _ rfl _ _ 41 rfl (W.heap.size + 1) 23 i0 (.int .u64 0) 1 8 Tryd.underlying41 hi hz0 hz1 hz2 rfl (by decide) v pre.length _ rfl (rows_block m4 (fun g hg => Below.heap_alloc _ _ _ (World.ownsRow.lt m4 g hg).2)) ⟨W2.heap.size, 0, none⟩ 1 1 [.int .u64 (e.p : Nat)] rfl rfl (cell_one_new _ _ _) (by simp [Value.oneCell']) (by decide) (by unfold maxLen; omega) (by omega) (by simp; omega) (W2.heap.size + 1) (by simp) ?_; intro g' cap' w1 hown' hgrow hg' hgl; have hTg := grown_turn hgrow; have hBr := turn_row hTg m3 (fun c => by have := (World.ownsRow.lt m4 _ c).1; omega))
      | (refine wpListIn_storeSeg rfl 41 _ _ rfl rfl (W.heap.size) 0 _ #[.slice (some ⟨g', 0, none⟩) (pre.length + 1) cap'] rfl rfl rfl 41 _ hBr (show 0 + 1 ≤ 1 by decide) info1s (by simp [Value.oneCell']) #[.slice (some ⟨g', 0, none⟩) (pre.length + 1) cap'] rfl ?_; intro wz hrz htz)
      | fail)
    subst hsz
    exact LI.step f1 m2 (fun c => Nat.lt_irrefl _ (hQ _ c)) (fun i c => ⟨hQ i c, hQ i c⟩) m4 (by have := ht.size; omega) hBl hown' hTg hg' hgl hrz htz
  case hdone =>
    rintro D Yt W' hD ⟨v, f1, m2, m3, m4, m5⟩ nD hYs ht hK
    have hc : W'.cell? ⟨W.heap.size, 0, none⟩ = some v := by rw [cell_of_row _ _ _ _ _ _ m3]; rfl
    have HN : Hid ((W'.putObj D (.deferred none)).ownsRow W.heap.size 23 1 v L.length (L.map fun e => .int .u64 (e.p : Nat)) ∧ (v = .slice none 0 0 ↔ L = []) ∧ Turn Z0 W (W'.putObj D (.deferred none))) := by
      refine ⟨rows_low (Nat.le_succ _) (rows_block (w := W') m4 (fun g hg => World.putObj_heap_other (fun c => nD ((f1 D).2 (Or.inr (Or.inr (c ▸ hg))))))), m5, ?_⟩
      refine ⟨m2.os, m2.tape, m2.output, by have := m2.size; simp; omega, fun i hi nz => ?_⟩
      refine (World.putObj_heap_other (by omega)).trans ?_
      by_cases c : Q i
      · exact m2.block i hi (fun q => q c)
      · refine (ht.block i (by omega) (fun q => ?_)).trans (hB.block i hi)
        rcases q with (q | q) | q
        · exact c q
        · omega
        · exact nz q
    gi_wp2
    refine ⟨by simp, .inl ⟨_, _, rfl, run_takeDeferred hK, ?_⟩⟩
    exact ⟨_, results_tmp rfl _ _ _, v, rfl, HN.out⟩
set_option maxRecDepth 100000 in
set_option maxHeartbeats 2000000 in
theorem coll_c (g : Nat) (lb : Array Value) (eg : ∀ args w, (callFunc g args).run Tryd.prog w = .ok (.enter g args) w) {Q Z0 : Nat → Prop} {Hd : List En → World → Prop} {L : List En} (hN : L.length ≤ 65536) {W : World}
    (hQ : ∀ i, Q i → i < W.heap.size) (hZ : ∀ i, Z0 i → i < W.heap.size ∧ ¬ Q i) (hseq : ∀ w', Below W.heap.size W w' → SeqT Fence.wide 8 Tryd.prog g lb (fun e : En => #[.int .u64 (e.p : Nat)]) Z0 Hd L w') (hHd : ∀ pre A, Turn (fun i => ¬ Q i) W A → Hd pre A) :
    Calls Tryd.prog 29 #[.func (.func g) #[] lb] W fun e w' => ∃ v, e = .returned v ∧ w'.ownsRow W.heap.size 23 1 v L.length (L.map fun e => .int .u64 (e.p : Nat)) ∧ (v = .slice none 0 0 ↔ L = []) ∧ Turn Z0 W w' := by
  have cA := aseq_c g lb eg hN hQ hZ hseq hHd
  clear hseq hHd hQ hZ
  go_enter Tryd.func29, Tryd.ntmps29
  go_wp2_with fail
  refine cA.mono ?_
  rintro e w' ⟨v, rfl, h1, h2, h3⟩
  go_wp2
  go_ret
  exact ⟨v, rfl, h1, h2, h3⟩
end TE
end Go.Proofs.YtcmndefjmhcbhaaDoor

/- The slots below one, in order: Below and Bare. -/
set_option linter.unusedVariables false
namespace Go.Proofs.YtcmndefjmhcbhaaDoor
open Go.RowKit
namespace TE

attribute [local go_sem] Oper.semAt_some

theorem below_t {n : Nat} {w W W' : World} {Z : Nat → Prop} (hb : Below n w W) (ht : Turn Z W W') (hn : n ≤ w.heap.size) (hz : ∀ i, i < n → ¬ Z i) : Below n w W' := ⟨ht.os.trans hb.os, ht.tape.trans hb.tape, ht.output.trans hb.output, Nat.le_trans hb.size ht.size, fun i hi => (ht.block i (Nat.lt_of_lt_of_le (Nat.lt_of_lt_of_le hi hn) hb.size) (hz i hi)).trans (hb.block i hi)⟩
set_option maxRecDepth 100000 in
set_option maxHeartbeats 4000000 in
/-- A slot that isn't held has none below it. -/
theorem bel_seq0 (n : Nat) (hn : 8 ≤ n) {x bt ba y : Nat} {E : Int} (hE : E ≠ 0) {w : World} (hbt : w.heap[bt]? = some (.cells #[.pointer (some ⟨x, 0, none⟩)] 25 (0, 0))) (hba : w.heap[ba]? = some (.cells #[.int .u64 (y : Nat)] 23 (0, 0))) :
    SeqT Fence.wide n Tryd.prog 51 #[.pointer (some ⟨bt, 0, none⟩), .pointer (some ⟨ba, 0, none⟩)] (fun e : En => #[.int .u64 (e.p : Nat)]) (fun i => i = bt ∨ i = ba) (fun _ A => Calls Tryd.prog 26 #[.pointer (some ⟨x, 0, none⟩), .int .u64 (y : Nat)] A fun r w' => r = .returned (.tuple #[.agg Z10, .int .i64 E]) ∧ Below A.heap.size A w') [] w := by
  intro l J Jx W Y hWs hZ hlt hab habx hHd hY h0
  obtain ⟨zt1, zt2, zt3⟩ := hZ bt (Or.inl rfl)
  obtain ⟨za1, za2, za3⟩ := hZ ba (Or.inr rfl)
  rw [hbt] at zt2
  rw [hba] at za2
  clear hbt hba hZ hY habx
  replace zt1 := Nat.lt_of_lt_of_le zt1 hWs
  replace za1 := Nat.lt_of_lt_of_le za1 hWs
  have hY0 := hlt _ _ _ h0
  have g3 := heap_alloc_new W (.cells #[.func (.yield l) #[] #[]] 44)
  have hB := below_new W (.cells #[.func (.yield l) #[] #[]] 44)
  generalize eW : W.alloc (.cells #[.func (.yield l) #[] #[]] 44) = W0 at *
  have kt : W0.cell? ⟨bt, 0, none⟩ = some (.pointer (some ⟨x, 0, none⟩)) := by rw [cell_of_row _ _ _ _ _ _ (block_later hB zt2)]; rfl
  have ka : W0.cell? ⟨ba, 0, none⟩ = some (.int .u64 (y : Nat)) := by rw [cell_of_row _ _ _ _ _ _ (block_later hB za2)]; rfl
  have hH := hHd _ _ _ (hab _ _ (fun _ => False) _ _ h0 (turn_of_below _ hB) (fun _ _ q => q))
  have dE : ((E : Int) != 0) = true := by rw [bne_iff_ne]; exact hE
  refine callsIn_of_wp_marks Tryd.func51 rfl trivial ?_ rfl
  simp only [Tryd.ntmps51, List.size_toArray, List.length_cons, List.length_nil, Nat.reduceAdd, Nat.reduceSub, Array.replicate_succ, Array.replicate_zero, List.push_toArray, List.append_toArray, List.nil_append, List.cons_append]
  gi_wp2_with fail
  (try rw [eW])
  refine ⟨trivial, fun _ => by omega, (callsIn_wide.2 hH).mono ?_⟩
  clear hH kt ka
  rintro r w1 ⟨rfl, hb⟩
  have hb3 := block_lt g3
  gi_wp2_with (first
    | (refine wpListIn_storeSeg rfl 61 _ _ rfl rfl (w1.heap.size) 0 _ Z10 rfl rfl rfl 61 _ (heap_alloc_new w1 (.cells #[.int .i64 0, .int .u64 0, .int .i64 0, .int .i64 0, .int .i64 0, .int .i64 0, .int .u64 0, .int .u64 0, .int .u64 0, .int .i64 0] 61)) (by rw [z10]; exact Nat.le_refl 10) (info10.trans (congrArg some z10.symm)) z1 Z10 (segA_all _ _ (by rw [z10]; rfl)) ?_; intro wq hrq htq; have htW : Turn (fun i => W0.heap.size ≤ i) W0 wq := ((turn_of_below _ hb).trans (turn_of_below _ (below_new w1 (.cells #[.int .i64 0, .int .u64 0, .int .i64 0, .int .i64 0, .int .i64 0, .int .i64 0, .int .u64 0, .int .u64 0, .int .u64 0, .int .i64 0] 61))) (fun _ _ q => q)).trans htq (fun i hi (q : i = _) => by have := hb.size; omega))
    | fail)
  have HT : Turn (fun i => W.heap.size ≤ i) W wq := (turn_of_below _ hB).trans htW (fun i hi (q : W0.heap.size ≤ i) => by omega)
  exact ⟨_, results_none rfl _ _ _, ⟨_, rfl⟩, Y, fun _ _ q => q, (Turn.refl _ _).trans HT (fun i hi (q : W.heap.size ≤ i) => by omega), Or.inl (hab _ _ _ _ _ h0 HT (fun i q c => by have := hY0 i q; omega))⟩
theorem enterBE (args : Array Value) (w : World) : (callFunc 51 args).run Tryd.prog w = .ok (.enter 51 args) w := enters_of Tryd.func51 (by kernel_rfl) rfl args w
/-- What the iterator over the slots below one yields. -/
theorem bel_l {w0 W : World} {O : Nat → Prop} {x ad S n : Nat} {g : Nat → Nat} {L : List Nd} (h : TrL w0 W O x ad S n g L) (hl : L.length ≤ 65536) {y : Nat} (hlt : y < 18446744073709551616) (hz : Zr g y) : ∃ (LE : List En) (Hd : List En → World → Prop), (LE.map fun e => Value.int .u64 (e.p : Nat)) = ((ps (undL y L)).map fun p => .int .u64 (p : Nat)) ∧ LE.length = (undL y L).length ∧
    (∀ (n : Nat), 8 ≤ n → ∀ (w : World) (bt ba : Nat), w.heap[bt]? = some (.cells #[.pointer (some ⟨x, 0, none⟩)] 25 (0, 0)) → w.heap[ba]? = some (.cells #[.int .u64 (y : Nat)] 23 (0, 0)) → SeqT Fence.wide n Tryd.prog 51 #[.pointer (some ⟨bt, 0, none⟩), .pointer (some ⟨ba, 0, none⟩)] (fun e : En => #[.int .u64 (e.p : Nat)]) (fun i => i = bt ∨ i = ba) Hd LE w) ∧
    (∀ pre A, Below W.heap.size W A → Hd pre A) := by
  obtain ⟨h1, h2⟩ := id h
  by_cases hp : y ∈ ps L
  · obtain ⟨A, t, B, rfl, rfl, hA⟩ := part_at hp
    obtain ⟨Lb, R, rfl, e2, e3, e4, e5⟩ := low_bel t.d B
    have hs := sg_at h2.nd
    have h0B : 0 ∉ ps (Lb ++ R) := fun c => h2.z ((ps_mid A (Lb ++ R) t 0).2 (Or.inr (Or.inr c)))
    refine ⟨ens t.p Lb (hd R 0), blHd x (A ++ t :: (Lb ++ R)).length t.p (⟨t.c, hd (Lb ++ R) 0, lst 0 A, t.d⟩ : Sl).row 0 (ens t.p (Lb ++ R) 0), ?_, ?_, fun n hn w bt ba hbt hba => ?_, fun pre A' hb => ?_⟩
    · rw [undL_at hA, e2, ens_map]
    · rw [undL_at hA, e2, ens_len]
    · refine bel_seq n hn hbt hba (ens_app _ _ _ _) (fun e he => ?_) (fun e R' he => ?_) (ens_chn t.p h0B) ?_ (by omega) (fun e he => ?_)
      · obtain ⟨m, hm, -, hd, -⟩ := ens_nd he
        rw [hd]; exact e4 m hm
      · obtain ⟨m, R2, hR, hd⟩ := ens_hd he
        rw [hd]; exact e5 m R2 hR
      · rw [ens_len]; simp; omega
      · have := (h1.good (ens_in h2.nd he)).2; omega
    · exact ⟨(h1.below hb).al (fun e he => ens_in h2.nd he) pre, held_ok (h1.below hb) hs⟩
  · refine ⟨[], fun _ A => Calls Tryd.prog 26 #[.pointer (some ⟨x, 0, none⟩), .int .u64 (y : Nat)] A fun r w' => r = .returned (.tuple #[.agg Z10, .int .i64 (heE S y)]) ∧ Below A.heap.size A w', ?_, ?_, fun n hn w bt ba hbt hba => bel_seq0 n hn he_ne hbt hba, fun pre A' hb => held_no (h1.below hb) hlt (sg_none hp 0 0) hz⟩
    · rw [undL_no hp]; rfl
    · rw [undL_no hp]; rfl
theorem belL_len (d : Nat) (L : List Nd) : (belL d L).length ≤ L.length := by
  induction L with
  | nil => exact Nat.le_refl _
  | cons m L ih =>
    show (if d < m.d then m :: belL d L else []).length ≤ _
    by_cases c : d < m.d
    · rw [if_pos c]; simp only [List.length_cons]; omega
    · rw [if_neg c]; simp
theorem undL_len (y : Nat) (L : List Nd) : (undL y L).length ≤ L.length := by
  induction L with
  | nil => exact Nat.le_refl _
  | cons m L ih =>
    show (if m.p = y then belL m.d L else undL y L).length ≤ _
    have := belL_len m.d L
    by_cases c : m.p = y
    · rw [if_pos c]; simp only [List.length_cons]; omega
    · rw [if_neg c]; simp only [List.length_cons]; omega
set_option maxRecDepth 100000 in
set_option maxHeartbeats 2000000 in
theorem below_l {w0 W : World} {O : Nat → Prop} {x ad S n : Nat} {g : Nat → Nat} {L : List Nd} (h : TrL w0 W O x ad S n g L) (hl : L.length ≤ 65536) {y : Nat} (hlt : y < 18446744073709551616) (hz : Zr g y) :
    Calls Tryd.prog 11 #[.pointer (some ⟨x, 0, none⟩), .int .u64 (y : Nat)] W fun e w' => ∃ v, e = .returned v ∧ w'.ownsRow W.heap.size 23 1 v (undL y L).length ((ps (undL y L)).map fun p => .int .u64 (p : Nat)) ∧ (v = .slice none 0 0 ↔ undL y L = []) ∧ Below W.heap.size W w' := by
  obtain ⟨LE, Hd, q1, q2, q3, q4⟩ := bel_l h hl hlt hz
  have cB := below_c x y W
  have hul := undL_len y L
  have cC : ∀ w1, Below W.heap.size W w1 → w1.heap[W.heap.size]? = some (.cells #[.pointer (some ⟨x, 0, none⟩)] 25 (0, 0)) → w1.heap[W.heap.size + 1]? = some (.cells #[.int .u64 (y : Nat)] 23 (0, 0)) →
      Calls Tryd.prog 29 #[.func (.func 51) #[] #[.pointer (some ⟨W.heap.size, 0, none⟩), .pointer (some ⟨W.heap.size + 1, 0, none⟩)]] w1 fun e w' => ∃ v, e = .returned v ∧ w'.ownsRow W.heap.size 23 1 v (undL y L).length ((ps (undL y L)).map fun p => .int .u64 (p : Nat)) ∧ (v = .slice none 0 0 ↔ undL y L = []) ∧ Below W.heap.size W w' := fun w1 hb r1 r2 => by
    have hl1 := block_lt r1
    have hl2 := block_lt r2
    refine (coll_c 51 _ enterBE (Q := fun i => i < W.heap.size) (Z0 := fun i => i = W.heap.size ∨ i = W.heap.size + 1) (by omega) (fun i q => Nat.lt_trans q hl1) (fun i c => ?_) (fun w' hb2 => q3 8 (Nat.le_refl _) w' _ _ (block_later hb2 r1) (block_later hb2 r2)) (fun pre A ht => q4 pre A (below_t hb ht (Nat.le_refl _) (fun i hi c => c hi)))).mono ?_
    · rcases c with c | c <;> refine ⟨by omega, by omega⟩
    · rintro e w' ⟨v, rfl, m1, m2, m3⟩
      refine ⟨v, rfl, ?_, ?_, below_t hb m3 (Nat.le_refl _) (fun i hi c => by rcases c with c | c <;> omega)⟩
      · rw [q1, q2] at m1
        exact rows_low hb.size m1
      · rw [m2]
        exact ⟨fun c => List.eq_nil_of_length_eq_zero (by rw [← q2, c]; rfl), fun c => List.eq_nil_of_length_eq_zero (by rw [q2, c]; rfl)⟩
  clear h q1 q2 q3 q4 hz hlt
  go_enter Tryd.func11, Tryd.ntmps11
  go_wp2_with fail
  refine cB.mono ?_
  rintro e w1 ⟨rfl, r1, r2, hb⟩
  have cC2 := cC w1 hb r1 r2
  clear cC cB r1 r2
  go_wp2_with fail
  refine cC2.mono ?_
  rintro e w2 ⟨v, rfl, m1, m2, m3⟩
  have HN := Hid.mk (And.intro m1 (And.intro m2 m3))
  clear m1 m2 m3
  go_wp2
  go_ret
  exact ⟨v, rfl, HN.out⟩
def BrI (W : World) (pre : List En) (Yt : Nat → Prop) (A : World) : Prop := pre = [] ∧ (∀ i, Yt i ↔ i < W.heap.size ∨ i = W.heap.size) ∧ Below W.heap.size W A ∧ A.heap[W.heap.size]? = some (.cells #[.bool false] 4 (0, 0))
def BrX (W : World) (c : Code) (pre : List En) (Yt : Nat → Prop) (A : World) : Prop := c = .ret ∧ pre ≠ [] ∧ (∀ i, Yt i ↔ i < W.heap.size ∨ i = W.heap.size) ∧ Below W.heap.size W A ∧ A.heap[W.heap.size]? = some (.cells #[.bool false] 4 (0, 0))
theorem results_cell_one {P : Program} {fn : Func} {p : Tmp} {ty : TypeId} (h : fn.results = #[.cell p ty]) (tmps : Array Value) (w : World) (g : Nat) (v : Value) (d : TypeDesc)
    (hp : tmps.getD p undef = .pointer (some ⟨g, 0, none⟩)) (hg : w.cell? ⟨g, 0, none⟩ = some v) (hs : ∀ f, d ≠ .struct f) (ha : ∀ n e, d ≠ .array n e) (hu : P.underlying ty = some d) :
    (results fn tmps).run P w = .ok v w := by
  have hp' : tmps[p]?.getD undef = .pointer (some ⟨g, 0, none⟩) := by simpa using hp
  have hagg : (isAgg ty).run P w = .ok false w := by
    unfold isAgg
    rw [Sem.run_bind, run_underlying hu w]
    cases d <;> simp_all
  simp [results, h, hp', asAddr, loadVar, Sem.run_bind, hagg, hg]
theorem info1b : (Tryd.prog.info? 4).map (·.size) = some 1 := by kernel_rfl
set_option maxRecDepth 100000 in
set_option maxHeartbeats 2000000 in
theorem bare_l {w0 W : World} {O : Nat → Prop} {x ad S n : Nat} {g : Nat → Nat} {L : List Nd} (h : TrL w0 W O x ad S n g L) (hl : L.length ≤ 65536) {y : Nat} (hlt : y < 18446744073709551616) (hz : Zr g y) :
    Calls Tryd.prog 13 #[.pointer (some ⟨x, 0, none⟩), .int .u64 (y : Nat)] W fun e w' => e = .returned (.bool (undL y L).isEmpty) ∧ Below W.heap.size W w' := by
  obtain ⟨LE, Hd, -, q2, q3, q4⟩ := bel_l h hl hlt hz
  clear h hz hlt
  have cB := fun w1 => below_c x y w1
  have g3 := heap_alloc_new W (.cells #[.bool false] 4)
  have hB := below_new W (.cells #[.bool false] 4)
  generalize eW : W.alloc (.cells #[.bool false] 4) = W0 at *
  have hb3 := block_lt g3
  refine (callsIn_wide (n := 10)).1 ?_
  refine callsIn_of_wp_marks Tryd.func13 rfl trivial ?_ rfl
  simp only [Tryd.ntmps13, List.size_toArray, List.length_cons, List.length_nil, Nat.reduceAdd, Nat.reduceSub, Array.replicate_succ, Array.replicate_zero, List.push_toArray, List.append_toArray, List.nil_append, List.cons_append]
  gi_wp2_with fail
  (try rw [eW])
  refine ⟨trivial, (callsIn_wide.2 (cB _)).mono ?_⟩
  clear cB
  rintro r w2 ⟨rfl, r1, r2, hb2⟩
  have g32 := block_later hb2 g3
  have hl2 := block_lt r2
  have hB2 := below_tr hB hb2
  gi_wp2_with fail
  refine rf_law rfl (by omega) (gf := 51) (lb := #[.pointer (some ⟨W0.heap.size, 0, none⟩), .pointer (some ⟨W0.heap.size + 1, 0, none⟩)]) rfl trivial enterBE
    (q3 _ (by omega) _ _ _ r1 r2) (fun _ => rfl) (BrI W) (BrX W) ?hlt ?hI ?hIx ?hHd (fun i => i < W.heap.size ∨ i = W.heap.size) ?h0 ?hZ ?hround ?hdone ?hstop
  case hlt =>
    rintro s Y A ⟨-, k2, -, k4⟩ i q
    have := block_lt k4
    rcases (k2 i).1 q with c | c <;> omega
  case hI =>
    rintro s Y Z A C ⟨k1, k2, k3, k4⟩ ht hd
    exact ⟨k1, k2, below_t k3 ht (Nat.le_refl _) (fun i hi => hd i ((k2 i).2 (Or.inl hi))), turn_row ht k4 (hd _ ((k2 _).2 (Or.inr rfl)))⟩
  case hIx =>
    rintro c s Y Z A C ⟨k0, k1, k2, k3, k4⟩ ht hd
    exact ⟨k0, k1, k2, below_t k3 ht (Nat.le_refl _) (fun i hi => hd i ((k2 i).2 (Or.inl hi))), turn_row ht k4 (hd _ ((k2 _).2 (Or.inr rfl)))⟩
  case hHd =>
    rintro s Y A ⟨-, -, k3, -⟩
    exact q4 s A k3
  case h0 => exact ⟨rfl, fun _ => Iff.rfl, hB2, g32⟩
  case hZ => rintro i (c | c) <;> refine ⟨by omega, ?_⟩ <;> rintro (q | q) <;> omega
  case hround =>
    rintro l' sz pre e rest Yt W' hLe hI hsz hl' nl'
    gi_wp2
    refine ⟨Below.refl _ _, fun W2 ht hI2 => ?_⟩
    obtain ⟨k1, k2, k3, k4⟩ := hI2
    gi_step
    gi_step
    gi_step
    simp only [List.zip_toArray, List.zip_cons_cons, List.zip_nil_right, List.size_toArray, List.length_cons, List.length_nil, List.foldl_toArray', List.foldl_cons, List.foldl_nil, List.setIfInBounds_toArray, List.set_cons_succ, List.set_cons_zero]
    refine wpListIn_storeSeg rfl 4 _ _ rfl rfl (W.heap.size) 0 (.bool false) #[.bool false] rfl rfl rfl 4 _ k4 (show 0 + 1 ≤ 1 by decide) info1b (by simp [Value.oneCell']) #[.bool false] rfl ?_
    intro wz hrz htz
    gi_wp2
    exact ⟨Yt, (Turn.refl _ _).trans htz (fun i _ (q : i = _) => Or.inl ((k2 i).2 (Or.inr q))), fun _ _ q => q, rfl, by simp, k2, below_t k3 htz (Nat.le_refl _) (fun i hi (q : i = _) => by omega), hrz⟩
  case hdone =>
    rintro D Yt W' hD ⟨k1, k2, k3, k4⟩ nD hYs ht hK
    have hD1 : D ≠ W.heap.size := by omega
    gi_wp2_with (first
      | (refine wpListIn_storeSeg rfl 4 _ _ rfl rfl (W.heap.size) 0 (.bool true) #[.bool true] rfl rfl rfl 4 _ k4 (show 0 + 1 ≤ 1 by decide) info1b (by simp [Value.oneCell']) #[.bool true] rfl ?_; intro wz hrz htz)
      | fail)
    have hDW := block_lt hK
    have hKz := turn_row htz hK hD1
    have hE : (undL y L).isEmpty = true := by rw [List.isEmpty_iff]; exact List.eq_nil_of_length_eq_zero (by rw [← q2, k1]; rfl)
    have hc : (wz.putObj D (.deferred none)).cell? ⟨W.heap.size, 0, none⟩ = some (.bool true) := by
      rw [cell_of_row _ _ _ _ _ _ ((World.putObj_heap_other (w := wz) (fun c => hD1 c.symm)).trans hrz)]; rfl
    have hBz : Below W.heap.size W (wz.putObj D (.deferred none)) := below_t (below_t k3 htz (Nat.le_refl _) (fun i hi (q : i = _) => by omega)) (turn_putObj wz D _) (Nat.le_refl _) (fun i hi (q : i = _) => by have := hB2.size; omega)
    refine ⟨by simp, .inl ⟨_, _, rfl, run_takeDeferred hKz, ?_⟩⟩
    exact ⟨_, results_cell_one rfl _ _ W.heap.size _ _ rfl hc (fun _ c => by cases c) (fun _ _ c => by cases c) Tryd.underlying4, by rw [hE], hBz⟩
  case hstop =>
    rintro D c pre Yt W' hD hpre ⟨rfl, k1, k2, k3, k4⟩ nD hYs ht hK
    gi_wp2
    have hD1 : D ≠ W.heap.size := by omega
    have hE : (undL y L).isEmpty = false := by
      rw [← Bool.not_eq_true, List.isEmpty_iff]
      intro c
      rw [c] at q2
      obtain ⟨r, hr⟩ := hpre
      have hl0 := List.eq_nil_of_length_eq_zero q2
      rw [hl0] at hr
      exact k1 (List.append_eq_nil_iff.1 hr).1
    have hc : (W'.putObj D (.deferred none)).cell? ⟨W.heap.size, 0, none⟩ = some (.bool false) := by
      rw [cell_of_row _ _ _ _ _ _ ((World.putObj_heap_other (w := W') (fun c => hD1 c.symm)).trans k4)]; rfl
    have hBz : Below W.heap.size W (W'.putObj D (.deferred none)) := below_t k3 (turn_putObj W' D _) (Nat.le_refl _) (fun i hi (q : i = _) => by have := hB2.size; omega)
    refine ⟨by simp, .inl ⟨_, _, rfl, run_takeDeferred hK, ?_⟩⟩
    exact ⟨_, results_cell_one rfl _ _ W.heap.size _ _ rfl hc (fun _ c => by cases c) (fun _ _ c => by cases c) Tryd.underlying4, by rw [hE], hBz⟩
end TE
end Go.Proofs.YtcmndefjmhcbhaaDoor

/- Remove. -/
set_option linter.unusedVariables false
namespace Go.Proofs.YtcmndefjmhcbhaaDoor
open Go.RowKit
namespace TE

attribute [local go_sem] Oper.semAt_some

set_option maxRecDepth 100000 in
set_option maxHeartbeats 2000000 in
theorem rm1_c (s : Sl) (hd : 0 < s.d ∧ s.d ≤ 4096) (w1 : World) : Doer 35 #[] s (toD (s.d - 1) s) w1 := by
  intro b hb
  have gb := Hid.mk hb
  obtain ⟨-, -, -, -, -, -, -, -, -, q9⟩ := cells10 hb
  clear hb
  have eD : (s.d : Int) - 1 = ((s.d - 1 : Nat) : Int) := by omega
  have hi := hd
  show Calls Tryd.prog 35 #[.pointer (some ⟨b, 0, none⟩)] w1 _
  go_enter Tryd.func35, Tryd.ntmps35
  go_wp2_with (first
    | (refine wpList_store_segTo rfl 3 _ _ rfl rfl b 9 _ #[.int .i64 ((s.d - 1 : Nat) : Int)] rfl rfl rfl 61 _ gb.out (show 9 + 1 ≤ 10 by decide) info1i (by simp [Value.oneCell']) (toD (s.d - 1) s).row rfl ?_; intro wq hrq htq)
    | fail)
  go_end0
  exact ⟨rfl, hrq, htq⟩
theorem enterRM (args : Array Value) (w : World) : (callFunc 35 args).run Tryd.prog w = .ok (.enter 35 args) w := enters_of Tryd.func35 (by kernel_rfl) rfl args w

/-- Slots one step less deep, one after the other. -/
def dn (σ : Nat → Option Sl) : List En → Nat → Option Sl
  | [] => σ
  | e :: l => dn (ch σ e.p (toD (e.s.d - 1))) l
theorem dn_snoc (σ : Nat → Option Sl) (l : List En) (e : En) : dn σ (l ++ [e]) = ch (dn σ l) e.p (toD (e.s.d - 1)) := by
  induction l generalizing σ with
  | nil => rfl
  | cons a l ih => exact ih _
theorem dn_far (σ : Nat → Option Sl) (l : List En) (z : Nat) (h : ∀ e ∈ l, e.p ≠ z) : dn σ l z = σ z := by
  induction l generalizing σ with
  | nil => rfl
  | cons a l ih =>
    show dn (ch σ a.p _) l z = _
    rw [ih _ (fun e he => h e (by simp [he])), ch_z, if_neg (fun c => h a (by simp) c.symm)]
def lw (m : Nd) : Nd := { m with d := m.d - 1 }
theorem dn_ok (A Lb R : List Nd) (p q : Nat) (hn : (ps (A ++ (Lb ++ R))).Nodup) : dn (sg 0 (A ++ (Lb ++ R)) 0) (ens p Lb q) = sg 0 (A ++ (Lb.map lw ++ R)) 0 := by
  induction Lb generalizing A p with
  | nil => rfl
  | cons m Lb ih =>
    show dn (ch (sg 0 (A ++ (m :: (Lb ++ R))) 0) m.p (toD (m.d - 1))) (ens m.p Lb q) = _
    have hn' : (ps (A ++ m :: (Lb ++ R))).Nodup := hn
    rw [setD_ok (m.d - 1) hn']
    have e1 : A ++ ({ m with d := m.d - 1 } : Nd) :: (Lb ++ R) = (A ++ [lw m]) ++ (Lb ++ R) := by simp [lw]
    have e2 : ps ((A ++ [lw m]) ++ (Lb ++ R)) = ps (A ++ (m :: (Lb ++ R))) := by simp [ps, lw]
    rw [e1, ih (A ++ [lw m]) m.p (by rw [e2]; exact hn)]
    simp
theorem hd_low (Lb R : List Nd) (q : Nat) : hd (Lb.map lw ++ R) q = hd (Lb ++ R) q := by cases Lb <;> rfl
theorem ps_low (A Lb R : List Nd) : ps (A ++ (Lb.map lw ++ R)) = ps (A ++ (Lb ++ R)) := by
  have : ∀ Lb : List Nd, (Lb.map lw).map (·.p) = Lb.map (·.p) := fun Lb => by rw [List.map_map]; rfl
  unfold ps
  rw [List.map_append, List.map_append, List.map_append, List.map_append, this]
set_option maxRecDepth 100000 in
set_option maxHeartbeats 2000000 in
theorem rem_no {w0 W : World} {O : Nat → Prop} {x ad S n : Nat} {g : Nat → Nat} {σ : Nat → Option Sl} {fs ct : Nat} (h : TrS w0 W O x ad S n g σ fs ct) {p : Nat} (hlt : p < 18446744073709551616) (hz : Zr g p) (hp : σ p = none) :
    Calls Tryd.prog 16 #[.pointer (some ⟨x, 0, none⟩), .int .u64 (p : Nat)] W fun e w' => e = .returned (.int .i64 (heE S p)) ∧ Below W.heap.size W w' := by
  have cH := fun (w1 : World) (hb : Below W.heap.size W w1) => held_no (h.below hb) hlt hp hz
  have hE : ¬ heE S p = 0 := he_ne
  have g3 := heap_alloc_new W (.cells #[.pointer (some ⟨x, 0, none⟩)] 25)
  have hB := below_new W (.cells #[.pointer (some ⟨x, 0, none⟩)] 25)
  generalize eW : W.alloc (.cells #[.pointer (some ⟨x, 0, none⟩)] 25) = W0 at *
  have kt : W0.cell? ⟨W.heap.size, 0, none⟩ = some (.pointer (some ⟨x, 0, none⟩)) := by rw [cell_of_row _ _ _ _ _ _ g3]; rfl
  generalize heE S p = E at *
  have dE : ((E : Int) != 0) = true := by rw [bne_iff_ne]; exact hE
  clear h hz hlt hE hp
  refine (callsIn_wide (n := 10)).1 ?_
  refine callsIn_of_wp_marks Tryd.func16 rfl trivial ?_ rfl
  simp only [Tryd.ntmps16, List.size_toArray, List.length_cons, List.length_nil, Nat.reduceAdd, Nat.reduceSub, Array.replicate_succ, Array.replicate_zero, List.push_toArray, List.append_toArray, List.nil_append, List.cons_append]
  gi_wp2_with fail
  (try rw [eW])
  refine ⟨trivial, (callsIn_wide.2 (cH _ hB)).mono ?_⟩
  clear cH kt
  rintro r w1 ⟨rfl, hb⟩
  gi_wp2_with (first
    | (refine wpListIn_storeSeg rfl 61 _ _ rfl rfl (w1.heap.size) 0 _ Z10 rfl rfl rfl 61 _ (heap_alloc_new w1 (.cells #[.int .i64 0, .int .u64 0, .int .i64 0, .int .i64 0, .int .i64 0, .int .i64 0, .int .u64 0, .int .u64 0, .int .u64 0, .int .i64 0] 61)) (by rw [z10]; exact Nat.le_refl 10) (info10.trans (congrArg some z10.symm)) z1 Z10 (segA_all _ _ (by rw [z10]; rfl)) ?_; intro wq hrq htq; have HB : Below W.heap.size W wq := below_t (below_tr hB hb) ((turn_of_below (fun i => i = w1.heap.size) (below_new w1 (.cells #[.int .i64 0, .int .u64 0, .int .i64 0, .int .i64 0, .int .i64 0, .int .i64 0, .int .u64 0, .int .u64 0, .int .u64 0, .int .i64 0] 61))).trans htq (fun _ _ q => q)) (Nat.le_refl _) (fun i hi (q : i = _) => by have := hB.size; have := hb.size; omega))
    | fail)
  exact ⟨_, results_tmp rfl _ _ _, rfl, HB⟩
/-- What the rounds keep. -/
def RmI (w0 W : World) (O : Nat → Prop) (x ad S n : Nat) (g : Nat → Nat) (σ : Nat → Option Sl) (fs ct b1 : Nat) (V : Array Value) (LE pre : List En) (Yt : Nat → Prop) (A : World) : Prop :=
  pre <+: LE ∧ ∃ O', (∀ i, Yt i ↔ i < W.heap.size ∨ O' i ∨ i = W.heap.size ∨ i = b1) ∧ TrS w0 A O' x ad S (n + 4 * pre.length) g (dn σ pre) fs ct ∧ Turn O W A ∧ (∀ i, i < W.heap.size → O' i → O i) ∧ ¬ O' W.heap.size ∧ ¬ O' b1 ∧
    A.heap[W.heap.size]? = some (.cells #[.pointer (some ⟨x, 0, none⟩)] 25 (0, 0)) ∧ A.heap[b1]? = some (.cells V 61 (0, 0))
theorem RmI.turn {w0 W A C : World} {O Z Yt : Nat → Prop} {x ad S n : Nat} {g : Nat → Nat} {σ : Nat → Option Sl} {fs ct b1 : Nat} {V : Array Value} {LE pre : List En} (h : RmI w0 W O x ad S n g σ fs ct b1 V LE pre Yt A) (hw : w0.heap.size ≤ W.heap.size) (ht : Turn Z A C) (hd : ∀ i, Yt i → ¬ Z i) : RmI w0 W O x ad S n g σ fs ct b1 V LE pre Yt C := by
  obtain ⟨k0, O', k1, k2, k3, k4, k5, k6, k7, k8⟩ := h
  refine ⟨k0, O', k1, k2.turn ht (fun i q => hd i ((k1 i).2 (Or.inr (Or.inl q)))) (fun i q => Nat.le_of_not_lt fun c => hd i ((k1 i).2 (Or.inl (Nat.lt_of_lt_of_le c hw))) q), k3.trans ht (fun i hi q => absurd q (hd i ((k1 i).2 (Or.inl hi)))), k4, k5, k6, turn_row ht k7 (hd _ ((k1 _).2 (Or.inr (Or.inr (Or.inl rfl))))), turn_row ht k8 (hd _ ((k1 _).2 (Or.inr (Or.inr (Or.inr rfl)))))⟩
theorem RmI.lt {w0 W A : World} {O Yt : Nat → Prop} {x ad S n : Nat} {g : Nat → Nat} {σ : Nat → Option Sl} {fs ct b1 : Nat} {V : Array Value} {LE pre : List En} (h : RmI w0 W O x ad S n g σ fs ct b1 V LE pre Yt A) : ∀ i, Yt i → i < A.heap.size := by
  obtain ⟨k0, O', k1, k2, k3, k4, k5, k6, k7, k8⟩ := h
  intro i q
  rcases (k1 i).1 q with c | c | c | c
  · exact Nat.lt_of_lt_of_le c k3.size
  · exact k2.olt i c
  · rw [c]; exact block_lt k7
  · rw [c]; exact block_lt k8
theorem RmI.step {w0 W A C : World} {O Yt : Nat → Prop} {x ad S n sz : Nat} {g : Nat → Nat} {σ : Nat → Option Sl} {fs ct b1 : Nat} {V : Array Value} {LE pre : List En} {e : En} (k0 : pre ++ [e] <+: LE) (O' : Nat → Prop) (k1 : ∀ i, Yt i ↔ i < W.heap.size ∨ O' i ∨ i = W.heap.size ∨ i = b1) (k3 : Turn O W A) (k4 : ∀ i, i < W.heap.size → O' i → O i) (k5 : ¬ O' W.heap.size) (k6 : ¬ O' b1)
    (k7 : A.heap[W.heap.size]? = some (.cells #[.pointer (some ⟨x, 0, none⟩)] 25 (0, 0))) (k8 : A.heap[b1]? = some (.cells V 61 (0, 0))) (hsz : sz ≤ A.heap.size) (hN : NxS w0 A O' x ad S (n + 4 * pre.length + 4) g (dn σ (pre ++ [e])) fs ct C) :
    ∃ Y2, Turn (fun i => Yt i ∨ sz ≤ i) A C ∧ (∀ i, i < sz → Y2 i → Yt i) ∧ RmI w0 W O x ad S n g σ fs ct b1 V LE (pre ++ [e]) Y2 C := by
  obtain ⟨O2, h1, h2, h3⟩ := hN
  have hb0 := block_lt k7
  have hb1 := block_lt k8
  refine ⟨fun i => i < W.heap.size ∨ O2 i ∨ i = W.heap.size ∨ i = b1, (Turn.refl _ _).trans h2 (fun i _ q => Or.inl ((k1 i).2 (Or.inr (Or.inl q)))), fun i hi q => (k1 i).2 ?_, k0, O2, fun _ => Iff.rfl, ?_, k3.trans h2 (fun i hi q => k4 i hi q), fun i hi q => k4 i hi (h3 i (Nat.lt_of_lt_of_le hi k3.size) q), fun q => k5 (h3 _ hb0 q), fun q => k6 (h3 _ hb1 q), turn_row h2 k7 k5, turn_row h2 k8 k6⟩
  · rcases q with q | q | q
    · exact Or.inl q
    · exact Or.inr (Or.inl (h3 i (Nat.lt_of_lt_of_le hi hsz) q))
    · exact Or.inr (Or.inr q)
  · rw [List.length_append, List.length_singleton, show n + 4 * (pre.length + 1) = n + 4 * pre.length + 4 by omega]
    exact h1
theorem NxS.put {w0 W W4 W5 : World} {O O4 : Nat → Prop} {x ad S n : Nat} {g : Nat → Nat} {σ : Nat → Option Sl} {fs ct D : Nat} {v : Obj} (h : NxS w0 W4 O4 x ad S n g σ fs ct W5) (t : Turn O W W4) (o : ∀ i, i < W.heap.size → O4 i → O i) (hD : W.heap.size ≤ D) (hw : w0.heap.size ≤ W.heap.size) (hD4 : D < W4.heap.size) (hnD : ¬ O4 D) : NxS w0 W O x ad S n g σ fs ct (W5.putObj D v) := by
  obtain ⟨O5, s1, s2, s3⟩ := h
  exact ⟨O5, s1.turn (turn_putObj W5 D v) (fun i q (c : i = D) => hnD (s3 D hD4 (c ▸ q))) (fun i (c : i = D) => by omega), (t.trans s2 (fun i hi q => o i hi q)).trans (turn_putObj W5 D v) (fun i hi (c : i = D) => by omega), fun i hi q => o i hi (s3 i (Nat.lt_of_lt_of_le hi t.size) q)⟩
set_option maxRecDepth 100000 in
set_option maxHeartbeats 4000000 in
theorem rem_mk {w0 W : World} {O : Nat → Prop} {x ad S n : Nat} {g : Nat → Nat} {σ : Nat → Option Sl} {fs ct : Nat} (h : TrS w0 W O x ad S n g σ fs ct) {p m : Nat} {t : Sl} (hp : σ p = some t) (hpe : sE S p = 0) (hzp : Zr g p) (LE : List En) (hm : m = n + 4 * LE.length) (hn : m + 12 < 100000000) (hct : 0 < ct ∧ ct < 4611686018427387904)
    (hE : ∀ pre e rest, LE = pre ++ e :: rest → (∀ f ∈ pre, f.p ≠ e.p) ∧ σ e.p = some e.s ∧ 0 < e.s.d) (Hd : List En → World → Prop)
    (hseq : ∀ (w : World) (bt ba : Nat), w.heap[bt]? = some (.cells #[.pointer (some ⟨x, 0, none⟩)] 25 (0, 0)) → w.heap[ba]? = some (.cells #[.int .u64 (p : Nat)] 23 (0, 0)) → SeqT Fence.wide 9 Tryd.prog 51 #[.pointer (some ⟨bt, 0, none⟩), .pointer (some ⟨ba, 0, none⟩)] (fun e : En => #[.int .u64 (e.p : Nat)]) (fun i => i = bt ∨ i = ba) Hd LE w)
    (hHd : ∀ pre A O' k, pre <+: LE → TrS w0 A O' x ad S k g (dn σ pre) fs ct → Hd pre A)
    (hpv : t.pv = 0 ∨ ∃ s, dn σ LE t.pv = some s) (hnx : t.nx = 0 ∨ ∃ s, ch (dn σ LE) t.pv (toN t.nx) t.nx = some s) (lp : t.pv < 4294967296 ∧ t.pv % 32 = 0) (lq : t.nx < 4294967296 ∧ t.nx % 32 = 0) :
    Calls Tryd.prog 16 #[.pointer (some ⟨x, 0, none⟩), .int .u64 (p : Nat)] W fun e w' => e = .returned (.int .i64 0) ∧ NxS w0 W O x ad S (m + 12) g (up (jnS t.pv t.nx (dn σ LE)) p none) (jnF t.pv t.nx fs) (ct - 1) w' := by
  have H0 := Hid.mk h
  have hlo := h.olt
  have hw0 := h.hb.size
  have cH := fun (w1 : World) (hb : Below W.heap.size W w1) => held_ok (h.below hb) hp
  have cB := fun w1 => below_c x p w1
  have cC := fun (w1 : World) (O' : Nat → Prop) (pre : List En) (e : En) (rest : List En) (hL : LE = pre ++ e :: rest) (h1 : TrS w0 w1 O' x ad S (n + 4 * pre.length) g (dn σ pre) fs ct) => by
    obtain ⟨q1, q2, q3⟩ := hE pre e rest hL
    have hs : dn σ pre e.p = some e.s := by rw [dn_far σ pre e.p q1]; exact q2
    have hl : pre.length < LE.length := by rw [hL]; simp
    have hg := (h1.good hs).1
    have := change_c h1 (by omega) hs (hg.toD (v := e.s.d - 1) (by have := hg.hd; omega)) enterRM (lb := #[]) (fun w2 hb => rm1_c e.s ⟨q3, hg.hd⟩ w2)
    rw [← ch_some hs (toD (e.s.d - 1)), ← dn_snoc] at this
    exact this
  have cJ := fun (w1 : World) (O' : Nat → Prop) (h1 : TrS w0 w1 O' x ad S m g (dn σ LE) fs ct) => join_c h1 (by omega) hpv hnx lp lq
  have cW := fun (w1 : World) (O' : Nat → Prop) (h1 : TrS w0 w1 O' x ad S (m + 8) g (jnS t.pv t.nx (dn σ LE)) (jnF t.pv t.nx fs) ct) => wipe_c h1 (by omega) hpe hzp
  have g3 := heap_alloc_new W (.cells #[.pointer (some ⟨x, 0, none⟩)] 25)
  have hB := below_new W (.cells #[.pointer (some ⟨x, 0, none⟩)] 25)
  generalize eW : W.alloc (.cells #[.pointer (some ⟨x, 0, none⟩)] 25) = W0 at *
  have kt : W0.cell? ⟨W.heap.size, 0, none⟩ = some (.pointer (some ⟨x, 0, none⟩)) := by rw [cell_of_row _ _ _ _ _ _ g3]; rfl
  have hb0 := block_lt g3
  clear h hp hpe hzp hpv hnx lp lq hE
  refine (callsIn_wide (n := 10)).1 ?_
  refine callsIn_of_wp_marks Tryd.func16 rfl trivial ?_ rfl
  simp only [Tryd.ntmps16, List.size_toArray, List.length_cons, List.length_nil, Nat.reduceAdd, Nat.reduceSub, Array.replicate_succ, Array.replicate_zero, List.push_toArray, List.append_toArray, List.nil_append, List.cons_append]
  gi_wp2_with fail
  (try rw [eW])
  refine ⟨trivial, (callsIn_wide.2 (cH _ hB)).mono ?_⟩
  clear cH kt
  rintro r w1 ⟨rfl, hb⟩
  have hw1 := hb.size
  gi_wp2_with (first
    | (refine wpListIn_storeSeg rfl 61 _ _ rfl rfl (w1.heap.size) 0 _ t.row rfl rfl rfl 61 _ (heap_alloc_new w1 (.cells #[.int .i64 0, .int .u64 0, .int .i64 0, .int .i64 0, .int .i64 0, .int .i64 0, .int .u64 0, .int .u64 0, .int .u64 0, .int .i64 0] 61)) (by rw [row10]; exact Nat.le_refl 10) (info10.trans (congrArg some (row10 _).symm)) (row1 _) t.row (segA_all _ _ (by rw [row10]; rfl)) ?_; intro wq hrq htq; have HB : Below W0.heap.size W0 wq := below_t hb ((turn_of_below (fun i => i = w1.heap.size) (below_new w1 (.cells #[.int .i64 0, .int .u64 0, .int .i64 0, .int .i64 0, .int .i64 0, .int .i64 0, .int .u64 0, .int .u64 0, .int .u64 0, .int .i64 0] 61))).trans htq (fun _ _ q => q)) (Nat.le_refl _) (fun i hi (q : i = _) => by omega); have kt : wq.cell? ⟨W.heap.size, 0, none⟩ = some (.pointer (some ⟨x, 0, none⟩)) := (by rw [cell_of_row _ _ _ _ _ _ (block_later HB g3)]; rfl))
    | fail)
  refine ⟨trivial, (callsIn_wide.2 (cB _)).mono ?_⟩
  clear cB kt
  rintro r w2 ⟨rfl, r1, r2, hb2⟩
  have g32 := block_later hb2 (block_later HB g3)
  have g42 := block_later hb2 hrq
  have hl2 := block_lt r2
  have hq1 := block_lt hrq
  have hB2 : Below W.heap.size W w2 := below_tr (below_tr hB HB) hb2
  gi_wp2_with fail
  refine rf_law rfl (by omega) (gf := 51) (lb := #[.pointer (some ⟨wq.heap.size, 0, none⟩), .pointer (some ⟨wq.heap.size + 1, 0, none⟩)]) rfl trivial enterBE
    (hseq _ _ _ r1 r2) (fun _ => rfl) (RmI w0 W O x ad S n g σ fs ct w1.heap.size t.row LE) (fun _ _ _ _ => False) (fun _ _ _ q => q.lt) (fun _ _ _ _ _ q ht hd => q.turn hw0 ht hd) (fun _ _ _ _ _ _ q _ _ => q.elim) ?hHd (fun i => i < W.heap.size ∨ O i ∨ i = W.heap.size ∨ i = w1.heap.size) ?h0 ?hZ ?hround ?hdone (fun _ _ _ _ _ _ _ q => q.elim)
  case hHd =>
    rintro pre Yt A ⟨k0, O', k1, k2, -⟩
    exact hHd pre A O' _ k0 k2
  case h0 =>
    refine ⟨List.nil_prefix, O, fun _ => Iff.rfl, H0.out.below hB2, turn_of_below _ hB2, fun i _ q => q, fun q => Nat.lt_irrefl _ (hlo _ q), fun q => by have := hlo _ q; omega, g32, g42⟩
  case hZ =>
    rintro i (c | c) <;> refine ⟨by omega, ?_⟩ <;> rintro (q | q | q | q)
    all_goals first
      | omega
      | (have := hlo i q; omega)
  case hround =>
    rintro l' sz pre e rest Yt W' hLe hI hsz hl' nl'
    gi_wp2
    refine ⟨Below.refl _ _, fun W2 ht hI2 => ?_⟩
    obtain ⟨k0, O', k1, k2, k3, k4, k5, k6, k7, k8⟩ := hI2
    have kt : W2.cell? ⟨W.heap.size, 0, none⟩ = some (.pointer (some ⟨x, 0, none⟩)) := by rw [cell_of_row _ _ _ _ _ _ k7]; rfl
    have cCh := cC W2 O' pre e rest hLe k2
    clear cC cJ cW hseq hHd
    gi_wp2_with fail
    refine ⟨trivial, (CallsIn.inRound _ (callsIn_wide.2 cCh)).mono ?_⟩
    clear cCh kt
    rintro r W3 ⟨rfl, hN⟩
    have HN := Hid.mk (RmI.step (n := n) (V := t.row) (LE := LE) (sz := sz) ⟨rest, by rw [hLe]; simp⟩ O' k1 k3 k4 k5 k6 k7 k8 (by rw [hsz]; exact ht.size) hN)
    clear hN k1 k2 k3 k4 k5 k6 k7 k8 ht
    gi_wp2
    exact HN.out
  case hdone =>
    rintro D Yt W' hD ⟨k0, O', k1, k2, k3, k4, k5, k6, k7, k8⟩ nD hYs ht hK
    rw [← hm] at k2
    have nD2 : ¬ O' D := fun q => nD ((k1 D).2 (Or.inr (Or.inl q)))
    have cJ2 := cJ W' O' k2
    have hlo2 := k2.olt
    have hbW := block_lt k7
    have hb1W := block_lt k8
    have hDW := block_lt hK
    have kt : W'.cell? ⟨W.heap.size, 0, none⟩ = some (.pointer (some ⟨x, 0, none⟩)) := by rw [cell_of_row _ _ _ _ _ _ k7]; rfl
    obtain ⟨p0, p1, p2, p3, p4, p5, p6, p7, p8, p9⟩ := cells10 k8
    clear cJ cC hseq hHd
    gi_wp2_with fail
    refine ⟨trivial, (callsIn_wide.2 cJ2).mono ?_⟩
    clear cJ2 kt p0 p1 p2 p3 p4 p5 p6 p7 p8 p9 k8
    rintro r W3 ⟨rfl, O3, j1, j2, j3⟩
    have k73 := turn_row j2 k7 k5
    have kt3 : W3.cell? ⟨W.heap.size, 0, none⟩ = some (.pointer (some ⟨x, 0, none⟩)) := by rw [cell_of_row _ _ _ _ _ _ k73]; rfl
    have n0 := j1.c0
    have cW2 := cW W3 O3 j1
    have n5 : ¬ O3 W.heap.size := fun q => k5 (j3 _ hbW q)
    clear cW
    gi_wp2_with fail
    refine ⟨trivial, (callsIn_wide.2 cW2).mono ?_⟩
    clear cW2 kt3 n0
    rintro r W4 ⟨rfl, O4, i1, i2, i3⟩
    have k74 := turn_row i2 k73 n5
    have kt4 : W4.cell? ⟨W.heap.size, 0, none⟩ = some (.pointer (some ⟨x, 0, none⟩)) := by rw [cell_of_row _ _ _ _ _ _ k74]; rfl
    have n2 := i1.c2
    have hbk := i1.blk
    have eC : (ct : Int) - 1 = ((ct - 1 : Nat) : Int) := by omega
    have hD3 : ¬ O3 D := fun q => nD2 (j3 _ hDW q)
    have hK4 := turn_row i2 (turn_row j2 hK nD2) hD3
    have hnD4 : ¬ O4 D := fun q => hD3 (i3 _ (Nat.lt_of_lt_of_le hDW j2.size) q)
    have hct1 := hct
    gi_wp2_with (first
      | (refine wpListIn_storeSeg rfl 3 _ _ rfl rfl x 2 (.int .i64 ((ct - 1 : Nat) : Int)) #[.int .i64 ((ct - 1 : Nat) : Int)] rfl rfl rfl 59 _ hbk (show 2 + 1 ≤ 3 by decide) info1i (by simp [Value.oneCell']) #[.pointer (some ⟨ad, 0, none⟩), .int .u64 (jnF t.pv t.nx fs : Nat), .int .i64 ((ct - 1 : Nat) : Int)] rfl ?_; intro wz hrz htz)
      | fail)
    have hKz := turn_row htz hK4 (fun c : D = x => hnD4 (c ▸ i1.ox))
    have hs2 := hB2.size
    have HN := NxS.put (v := .deferred none) (i1.setR hrz htz) ((k3.trans j2 k4).trans i2 (fun i hi q => k4 i hi (j3 i (Nat.lt_of_lt_of_le hi k3.size) q))) (fun i hi q => k4 i hi (j3 i (Nat.lt_of_lt_of_le hi k3.size) (i3 i (Nat.lt_of_lt_of_le hi (Nat.le_trans k3.size j2.size)) q))) (D := D) (by omega) hw0 (block_lt hK4) hnD4
    refine ⟨by simp, .inl ⟨_, _, rfl, run_takeDeferred hKz, ?_⟩⟩
    exact ⟨_, results_tmp rfl _ _ _, rfl, HN⟩
end TE
end Go.Proofs.YtcmndefjmhcbhaaDoor

set_option linter.unusedVariables false
namespace Go.Proofs.YtcmndefjmhcbhaaDoor
open Go.RowKit
namespace TE

theorem Wf.low {S : Nat} {A Lb R : List Nd} (h : Wf S (A ++ (Lb ++ R))) : Wf S (A ++ (Lb.map lw ++ R)) := by
  refine ⟨by rw [ps_low]; exact h.nd, by rw [ps_low]; exact h.z, fun k hk => ?_⟩
  rcases List.mem_append.1 hk with c | c
  · exact h.al k (by simp [c])
  · rcases List.mem_append.1 c with c | c
    · obtain ⟨m, hm, rfl⟩ := List.mem_map.1 c
      obtain ⟨a1, a2, a3⟩ := h.al m (by simp [hm])
      exact ⟨a1, a2, by show m.d - 1 ≤ 4096; omega⟩
    · exact h.al k (by simp [c])
def reE (S : Nat) (L : List Nd) (y : Nat) : Int := match fnd y L with | none => heE S y | some _ => 0
set_option maxHeartbeats 2000000 in
theorem remove_l {w0 W : World} {O : Nat → Prop} {x ad S n : Nat} {g : Nat → Nat} {L : List Nd} (h : TrL w0 W O x ad S n g L) (hl : L.length ≤ 65536) (hn : n + 4 * L.length + 12 < 100000000) {y : Nat} (hlt : y < 18446744073709551616) (hz : Zr g y) :
    Calls Tryd.prog 16 #[.pointer (some ⟨x, 0, none⟩), .int .u64 (y : Nat)] W fun e w' => e = .returned (.int .i64 (reE S L y)) ∧ NxL w0 W O x ad S (n + 4 * L.length + 12) g (if reE S L y = 0 then remL y L else L) w' := by
  obtain ⟨h1, h2⟩ := id h
  have hS := h1.sm
  by_cases hp : y ∈ ps L
  · obtain ⟨A, t, B, rfl, rfl, hA⟩ := part_at hp
    obtain ⟨Lb, R, rfl, e2, e3, e4, e5⟩ := low_bel t.d B
    have hcd : reE S (A ++ t :: (Lb ++ R)) t.p = 0 := by unfold reE; rw [fnd_at hA]
    rw [hcd, if_pos rfl, remL_at hA, e3]
    have hs := sg_at h2.nd
    obtain ⟨nA, nX, dj⟩ := nd_app h2.nd
    have nB : (ps (Lb ++ R)).Nodup := (List.nodup_cons.1 nX).2
    have nt : t.p ∉ ps (Lb ++ R) := (List.nodup_cons.1 nX).1
    have h0B : 0 ∉ ps (Lb ++ R) := fun c => h2.z ((ps_mid A (Lb ++ R) t 0).2 (Or.inr (Or.inr c)))
    have eLB : ens t.p (Lb ++ R) 0 = ens t.p Lb (hd R 0) ++ ens (lst t.p Lb) R 0 := ens_app _ _ _ _
    have hin : ∀ e ∈ ens t.p (Lb ++ R) 0, sg 0 (A ++ t :: (Lb ++ R)) 0 e.p = some e.s := fun e he => ens_in h2.nd he
    have hnd : ((ens t.p (Lb ++ R) 0).map (·.p)).Nodup := by rw [ens_ps]; exact nB
    have hen : (ens t.p Lb (hd R 0)).length = Lb.length := ens_len _ _ _
    have hlen : (A ++ t :: (Lb ++ R)).length = A.length + 1 + Lb.length + R.length := by simp only [List.length_append, List.length_cons]; omega
    have eL : (A ++ [t]) ++ (Lb ++ R) = A ++ t :: (Lb ++ R) := by simp
    have eL2 : (A ++ [t]) ++ (Lb.map lw ++ R) = A ++ t :: (Lb.map lw ++ R) := by simp
    have hdn := dn_ok (A ++ [t]) Lb R t.p (hd R 0) (by rw [eL]; exact h2.nd)
    rw [eL, eL2] at hdn
    have hW2 : Wf S (A ++ t :: (Lb.map lw ++ R)) := by
      have := Wf.low (A := A ++ [t]) (Lb := Lb) (R := R) (by rw [eL]; exact h2)
      rwa [eL2] at this
    have hrem := rem_ok (fun k hk => hW2.ne k (by simp [hk])) hW2.nd hW2.z
    rw [hd_low] at hrem
    have lB : hd (Lb ++ R) 0 = 0 ∨ hd (Lb ++ R) 0 ∈ ps (A ++ t :: (Lb ++ R)) := by
      rcases hd_or (Lb ++ R) with c | c
      · exact Or.inl c
      · exact Or.inr ((ps_mid _ _ t _).2 (Or.inr (Or.inr c)))
    have lA : lst 0 A = 0 ∨ lst 0 A ∈ ps (A ++ t :: (Lb ++ R)) := by
      rcases lst_or A with c | c
      · exact Or.inl c
      · exact Or.inr ((ps_mid _ _ t _).2 (Or.inl c))
    have eps : ps (A ++ t :: (Lb.map lw ++ R)) = ps (A ++ t :: (Lb ++ R)) := by rw [← eL2, ps_low, eL]
    refine (rem_mk h1 hs (h2.al t (by simp)).1 hz (ens t.p Lb (hd R 0)) rfl (by rw [hen]; omega) ⟨by omega, by omega⟩ ?hE (blHd x (A ++ t :: (Lb ++ R)).length t.p (⟨t.c, hd (Lb ++ R) 0, lst 0 A, t.d⟩ : Sl).row 0 (ens t.p (Lb ++ R) 0)) ?hseq ?hHd ?hpv ?hnx (h2.lnk hS lA) (h2.lnk hS lB)).mono ?fin
    case hE =>
      intro pre e rest hpr
      have he : e ∈ ens t.p Lb (hd R 0) := by rw [hpr]; simp
      have hall : e ∈ ens t.p (Lb ++ R) 0 := by rw [eLB]; exact List.mem_append.2 (Or.inl he)
      obtain ⟨m, hm, -, hdd, -⟩ := ens_nd he
      refine ⟨fun f hf c => ?_, hin e hall, by rw [hdd]; have := e4 m hm; omega⟩
      rw [eLB, hpr] at hnd
      simp only [List.map_append, List.map_cons, List.append_assoc, List.cons_append] at hnd
      exact (List.nodup_append.1 hnd).2.2 f.p (List.mem_map.2 ⟨f, hf, rfl⟩) e.p (by simp) c
    case hseq =>
      intro w bt ba hbt hba
      refine bel_seq 9 (by omega) hbt hba eLB (fun e he => ?_) (fun e R' he => ?_) (ens_chn t.p h0B) ?_ (by omega) (fun e he => ?_)
      · obtain ⟨m, hm, -, hd, -⟩ := ens_nd he
        rw [hd]; exact e4 m hm
      · obtain ⟨m, R2, hR, hd⟩ := ens_hd he
        rw [hd]; exact e5 m R2 hR
      · rw [ens_len]; simp only [List.length_append, List.length_cons]; omega
      · have := (h1.good (hin e he)).2; omega
    case hHd =>
      intro pre A' O' k hpre hT
      have hsub : ∀ e ∈ pre, e ∈ ens t.p Lb (hd R 0) := fun e he => hpre.subset he
      refine ⟨⟨hT.c2, fun e rest hpr => held_ok hT ?_⟩, held_ok hT ?_⟩
      · rw [dn_far]
        · exact hin e (by rw [hpr]; simp)
        · intro f hf c
          rw [hpr] at hnd
          simp only [List.map_append, List.map_cons] at hnd
          exact (List.nodup_append.1 hnd).2.2 f.p (List.mem_map.2 ⟨f, hf, rfl⟩) e.p (by simp) c
      · rw [dn_far]
        · exact hs
        · intro e he c
          obtain ⟨m, hm, hpm, -, -⟩ := ens_nd (hsub e he)
          exact nt (by rw [← c, hpm, ps_app]; exact List.mem_append.2 (Or.inl (mem_psI hm)))
    case hpv =>
      rcases lA with c | c
      · exact Or.inl c
      · refine Or.inr ?_
        rw [hdn]
        exact sg_some (by rw [eps]; exact c) 0 0
    case hnx =>
      rcases lB with c | c
      · exact Or.inl c
      · refine Or.inr (ch_ex ?_ _ _)
        rw [hdn]
        exact sg_some (by rw [eps]; exact c) 0 0
    case fin =>
      rintro e w' ⟨rfl, hN⟩
      refine ⟨rfl, ?_, hW2.rem⟩
      dsimp only at hN
      have e6 : hd (A ++ t :: (Lb ++ R)) 0 = hd (A ++ t :: (Lb.map lw ++ R)) 0 := by rw [hd_app, hd_app]; rfl
      have ec : (A ++ t :: (Lb ++ R)).length - 1 = (A ++ (Lb.map lw ++ R)).length := by simp only [List.length_append, List.length_cons, List.length_map]; omega
      rw [hdn, e6, hrem.1, hrem.2, ec] at hN
      exact hN.mono (by rw [hen]; omega)
  · have hcd : reE S L y = heE S y := by unfold reE; rw [fnd_none hp]
    rw [hcd, if_neg he_ne]
    exact (rem_no h1 hlt hz (sg_none hp 0 0)).mono fun e w' hh => ⟨hh.1, ((NxS.start h1).later hh.2).mono (by omega), h2⟩
end TE
end Go.Proofs.YtcmndefjmhcbhaaDoor
