/- A slot and the one derived from it: what the tree tells of them. -/
import Derived.Test.YtcmndefjmhcbhaaDoorTreP2
import Derived.Test.YtcmndefjmhcbhaaDoorPhysWords

/- The law's step; a memory beside a tree. -/
set_option linter.unusedVariables false
namespace Go.Proofs.YtcmndefjmhcbhaaDoor
open Go.RowKit
namespace TE

theorem TrL.later {w0 W : World} {O : Nat → Prop} {x ad S n : Nat} {g : Nat → Nat} {L : List Nd} (h : TrL w0 W O x ad S n g L) {W' : World} (hb : Below W.heap.size W W') : TrL w0 W' O x ad S n g L := ⟨h.1.below hb, h.2⟩
set_option maxRecDepth 100000 in
set_option maxHeartbeats 4000000 in
theorem done_1 {w0 W : World} {O : Nat → Prop} {x ad S n : Nat} {g : Nat → Nat} {L : List Nd} (h : TrL w0 W O x ad S n g L) (hl : L.length ≤ 65536) (hn : n + 4 * L.length + 64 < 100000000) {a b : Nat} {c : Cg} (ha : a < 18446744073709551616) (hza : Zr g a) (hb0 : b < 18446744073709551616) (hzb : Zr g b) (hc : c.Ok) :
    Calls Tryd.prog 7 #[.pointer (some ⟨x, 0, none⟩), .agg (To.row ⟨1, a, b, c⟩)] W fun e w' => e = .returned (.int .i64 (opE S L ⟨1, a, b, c⟩)) ∧ NxL w0 W O x ad S (n + 4 * L.length + 64) g (opL S L ⟨1, a, b, c⟩) w' := by
  have hE : opE S L ⟨1, a, b, c⟩ = maE S (sg 0 L 0) a L.length c.ft := by simp [opE]
  have hL : opL S L ⟨1, a, b, c⟩ = if maE S (sg 0 L 0) a L.length c.ft = 0 then ⟨a, c.cp, 0⟩ :: L else L := by unfold opL; rw [hE]; simp [opR]
  have cX := fun (w1 : World) (hb : Below W.heap.size W w1) => root_l (h.later hb) (by omega) ha hza hc
  rw [hE, hL]
  generalize maE S (sg 0 L 0) a L.length c.ft = E at *
  generalize (if E = 0 then ⟨a, c.cp, 0⟩ :: L else L) = L2 at *
  have gB := heap_alloc_new W (.cells (To.row ⟨1, a, b, c⟩) 35)
  have hB := below_new W (.cells (To.row ⟨1, a, b, c⟩) 35)
  obtain ⟨p0, p1, p2, p3, p4, p5, p6, p7, p8, p9⟩ := cells10 gB
  clear h ha hza hb0 hzb hc hE hL
  go_enter Tryd.func7, Tryd.ntmps7
  go_wp2_with fail
  generalize W.alloc (.cells (To.row ⟨1, a, b, c⟩) 35) = W0 at *
  refine (cX _ hB).mono ?_
  clear p0 p1 p2 p3 p4 p5 p6 p7 p8 p9
  rintro e w1 ⟨rfl, hN⟩
  have HN := Hid.mk (And.intro (NxS.base hB (hN.1.mono (show n + 20 ≤ n + 4 * L.length + 64 by omega))) hN.2)
  clear hN
  go_wp2
  go_ret
  exact ⟨rfl, HN.out⟩
set_option maxRecDepth 100000 in
set_option maxHeartbeats 4000000 in
theorem done_2 {w0 W : World} {O : Nat → Prop} {x ad S n : Nat} {g : Nat → Nat} {L : List Nd} (h : TrL w0 W O x ad S n g L) (hl : L.length ≤ 65536) (hn : n + 4 * L.length + 64 < 100000000) {a b : Nat} {c : Cg} (ha : a < 18446744073709551616) (hza : Zr g a) (hb0 : b < 18446744073709551616) (hzb : Zr g b) (hc : c.Ok) :
    Calls Tryd.prog 7 #[.pointer (some ⟨x, 0, none⟩), .agg (To.row ⟨2, a, b, c⟩)] W fun e w' => e = .returned (.int .i64 (opE S L ⟨2, a, b, c⟩)) ∧ NxL w0 W O x ad S (n + 4 * L.length + 64) g (opL S L ⟨2, a, b, c⟩) w' := by
  have hE : opE S L ⟨2, a, b, c⟩ = chE S L a b c.ft := by simp [opE]
  have hL : opL S L ⟨2, a, b, c⟩ = if chE S L a b c.ft = 0 then insA a b c.cp L else L := by unfold opL; rw [hE]; simp [opR]
  have cX := fun (w1 : World) (hb : Below W.heap.size W w1) => child_l (h.later hb) (by omega) ha hza hb0 hzb hc
  rw [hE, hL]
  generalize chE S L a b c.ft = E at *
  generalize (if E = 0 then insA a b c.cp L else L) = L2 at *
  have gB := heap_alloc_new W (.cells (To.row ⟨2, a, b, c⟩) 35)
  have hB := below_new W (.cells (To.row ⟨2, a, b, c⟩) 35)
  obtain ⟨p0, p1, p2, p3, p4, p5, p6, p7, p8, p9⟩ := cells10 gB
  clear h ha hza hb0 hzb hc hE hL
  go_enter Tryd.func7, Tryd.ntmps7
  go_wp2_with fail
  generalize W.alloc (.cells (To.row ⟨2, a, b, c⟩) 35) = W0 at *
  refine (cX _ hB).mono ?_
  clear p0 p1 p2 p3 p4 p5 p6 p7 p8 p9
  rintro e w1 ⟨rfl, hN⟩
  have HN := Hid.mk (And.intro (NxS.base hB (hN.1.mono (show n + 20 ≤ n + 4 * L.length + 64 by omega))) hN.2)
  clear hN
  go_wp2
  go_ret
  exact ⟨rfl, HN.out⟩
set_option maxRecDepth 100000 in
set_option maxHeartbeats 4000000 in
theorem done_3 {w0 W : World} {O : Nat → Prop} {x ad S n : Nat} {g : Nat → Nat} {L : List Nd} (h : TrL w0 W O x ad S n g L) (hl : L.length ≤ 65536) (hn : n + 4 * L.length + 64 < 100000000) {a b : Nat} {c : Cg} (ha : a < 18446744073709551616) (hza : Zr g a) (hb0 : b < 18446744073709551616) (hzb : Zr g b) (hc : c.Ok) :
    Calls Tryd.prog 7 #[.pointer (some ⟨x, 0, none⟩), .agg (To.row ⟨3, a, b, c⟩)] W fun e w' => e = .returned (.int .i64 (opE S L ⟨3, a, b, c⟩)) ∧ NxL w0 W O x ad S (n + 4 * L.length + 64) g (opL S L ⟨3, a, b, c⟩) w' := by
  have hE : opE S L ⟨3, a, b, c⟩ = stE S L a c.ft := by simp [opE]
  have hL : opL S L ⟨3, a, b, c⟩ = if stE S L a c.ft = 0 then setL a c.cp L else L := by unfold opL; rw [hE]; simp [opR]
  have cX := fun (w1 : World) (hb : Below W.heap.size W w1) => set_l (h.later hb) (by omega) ha hza hc
  rw [hE, hL]
  generalize stE S L a c.ft = E at *
  generalize (if E = 0 then setL a c.cp L else L) = L2 at *
  have gB := heap_alloc_new W (.cells (To.row ⟨3, a, b, c⟩) 35)
  have hB := below_new W (.cells (To.row ⟨3, a, b, c⟩) 35)
  obtain ⟨p0, p1, p2, p3, p4, p5, p6, p7, p8, p9⟩ := cells10 gB
  clear h ha hza hb0 hzb hc hE hL
  go_enter Tryd.func7, Tryd.ntmps7
  go_wp2_with fail
  generalize W.alloc (.cells (To.row ⟨3, a, b, c⟩) 35) = W0 at *
  refine (cX _ hB).mono ?_
  clear p0 p1 p2 p3 p4 p5 p6 p7 p8 p9
  rintro e w1 ⟨rfl, hN⟩
  have HN := Hid.mk (And.intro (NxS.base hB (hN.1.mono (show n + 4 ≤ n + 4 * L.length + 64 by omega))) hN.2)
  clear hN
  go_wp2
  go_ret
  exact ⟨rfl, HN.out⟩
set_option maxRecDepth 100000 in
set_option maxHeartbeats 4000000 in
theorem done_4 {w0 W : World} {O : Nat → Prop} {x ad S n : Nat} {g : Nat → Nat} {L : List Nd} (h : TrL w0 W O x ad S n g L) (hl : L.length ≤ 65536) (hn : n + 4 * L.length + 64 < 100000000) {a b : Nat} {c : Cg} (ha : a < 18446744073709551616) (hza : Zr g a) (hb0 : b < 18446744073709551616) (hzb : Zr g b) (hc : c.Ok) :
    Calls Tryd.prog 7 #[.pointer (some ⟨x, 0, none⟩), .agg (To.row ⟨4, a, b, c⟩)] W fun e w' => e = .returned (.int .i64 (opE S L ⟨4, a, b, c⟩)) ∧ NxL w0 W O x ad S (n + 4 * L.length + 64) g (opL S L ⟨4, a, b, c⟩) w' := by
  have hE : opE S L ⟨4, a, b, c⟩ = mvE S L a b := by simp [opE]
  have hL : opL S L ⟨4, a, b, c⟩ = if mvE S L a b = 0 then movL a b L else L := by unfold opL; rw [hE]; simp [opR]
  have cX := fun (w1 : World) (hb : Below W.heap.size W w1) => move_l (h.later hb) (by omega) ha hza hb0 hzb
  rw [hE, hL]
  generalize mvE S L a b = E at *
  generalize (if E = 0 then movL a b L else L) = L2 at *
  have gB := heap_alloc_new W (.cells (To.row ⟨4, a, b, c⟩) 35)
  have hB := below_new W (.cells (To.row ⟨4, a, b, c⟩) 35)
  obtain ⟨p0, p1, p2, p3, p4, p5, p6, p7, p8, p9⟩ := cells10 gB
  clear h ha hza hb0 hzb hc hE hL
  go_enter Tryd.func7, Tryd.ntmps7
  go_wp2_with fail
  generalize W.alloc (.cells (To.row ⟨4, a, b, c⟩) 35) = W0 at *
  refine (cX _ hB).mono ?_
  clear p0 p1 p2 p3 p4 p5 p6 p7 p8 p9
  rintro e w1 ⟨rfl, hN⟩
  have HN := Hid.mk (And.intro (NxS.base hB (hN.1.mono (show n + 24 ≤ n + 4 * L.length + 64 by omega))) hN.2)
  clear hN
  go_wp2
  go_ret
  exact ⟨rfl, HN.out⟩
set_option maxRecDepth 100000 in
set_option maxHeartbeats 4000000 in
theorem done_5 {w0 W : World} {O : Nat → Prop} {x ad S n : Nat} {g : Nat → Nat} {L : List Nd} (h : TrL w0 W O x ad S n g L) (hl : L.length ≤ 65536) (hn : n + 4 * L.length + 64 < 100000000) {a b : Nat} {c : Cg} (ha : a < 18446744073709551616) (hza : Zr g a) (hb0 : b < 18446744073709551616) (hzb : Zr g b) (hc : c.Ok) :
    Calls Tryd.prog 7 #[.pointer (some ⟨x, 0, none⟩), .agg (To.row ⟨5, a, b, c⟩)] W fun e w' => e = .returned (.int .i64 (opE S L ⟨5, a, b, c⟩)) ∧ NxL w0 W O x ad S (n + 4 * L.length + 64) g (opL S L ⟨5, a, b, c⟩) w' := by
  have hE : opE S L ⟨5, a, b, c⟩ = swE S L a b := by simp [opE]
  have hL : opL S L ⟨5, a, b, c⟩ = if swE S L a b = 0 then swpL a b L else L := by unfold opL; rw [hE]; simp [opR]
  have cX := fun (w1 : World) (hb : Below W.heap.size W w1) => swap_l (h.later hb) (by omega) ha hza hb0 hzb
  rw [hE, hL]
  generalize swE S L a b = E at *
  generalize (if E = 0 then swpL a b L else L) = L2 at *
  have gB := heap_alloc_new W (.cells (To.row ⟨5, a, b, c⟩) 35)
  have hB := below_new W (.cells (To.row ⟨5, a, b, c⟩) 35)
  obtain ⟨p0, p1, p2, p3, p4, p5, p6, p7, p8, p9⟩ := cells10 gB
  clear h ha hza hb0 hzb hc hE hL
  go_enter Tryd.func7, Tryd.ntmps7
  go_wp2_with fail
  generalize W.alloc (.cells (To.row ⟨5, a, b, c⟩) 35) = W0 at *
  refine (cX _ hB).mono ?_
  clear p0 p1 p2 p3 p4 p5 p6 p7 p8 p9
  rintro e w1 ⟨rfl, hN⟩
  have HN := Hid.mk (And.intro (NxS.base hB (hN.1.mono (show n + 40 ≤ n + 4 * L.length + 64 by omega))) hN.2)
  clear hN
  go_wp2
  go_ret
  exact ⟨rfl, HN.out⟩
set_option maxRecDepth 100000 in
set_option maxHeartbeats 4000000 in
theorem done_6 {w0 W : World} {O : Nat → Prop} {x ad S n : Nat} {g : Nat → Nat} {L : List Nd} (h : TrL w0 W O x ad S n g L) (hl : L.length ≤ 65536) (hn : n + 4 * L.length + 64 < 100000000) {a b : Nat} {c : Cg} (ha : a < 18446744073709551616) (hza : Zr g a) (hb0 : b < 18446744073709551616) (hzb : Zr g b) (hc : c.Ok) :
    Calls Tryd.prog 7 #[.pointer (some ⟨x, 0, none⟩), .agg (To.row ⟨6, a, b, c⟩)] W fun e w' => e = .returned (.int .i64 (opE S L ⟨6, a, b, c⟩)) ∧ NxL w0 W O x ad S (n + 4 * L.length + 64) g (opL S L ⟨6, a, b, c⟩) w' := by
  have hE : opE S L ⟨6, a, b, c⟩ = reE S L a := by simp [opE]
  have hL : opL S L ⟨6, a, b, c⟩ = if reE S L a = 0 then remL a L else L := by unfold opL; rw [hE]; simp [opR]
  have cX := fun (w1 : World) (hb : Below W.heap.size W w1) => remove_l (h.later hb) hl (by omega) ha hza
  rw [hE, hL]
  generalize reE S L a = E at *
  generalize (if E = 0 then remL a L else L) = L2 at *
  have gB := heap_alloc_new W (.cells (To.row ⟨6, a, b, c⟩) 35)
  have hB := below_new W (.cells (To.row ⟨6, a, b, c⟩) 35)
  obtain ⟨p0, p1, p2, p3, p4, p5, p6, p7, p8, p9⟩ := cells10 gB
  clear h ha hza hb0 hzb hc hE hL
  go_enter Tryd.func7, Tryd.ntmps7
  go_wp2_with fail
  generalize W.alloc (.cells (To.row ⟨6, a, b, c⟩) 35) = W0 at *
  refine (cX _ hB).mono ?_
  clear p0 p1 p2 p3 p4 p5 p6 p7 p8 p9
  rintro e w1 ⟨rfl, hN⟩
  have HN := Hid.mk (And.intro (NxS.base hB (hN.1.mono (show n + 4 * L.length + 12 ≤ n + 4 * L.length + 64 by omega))) hN.2)
  clear hN
  go_wp2
  go_ret
  exact ⟨rfl, HN.out⟩
set_option maxRecDepth 100000 in
set_option maxHeartbeats 4000000 in
theorem done_0 {w0 W : World} {O : Nat → Prop} {x ad S n : Nat} {g : Nat → Nat} {L : List Nd} (h : TrL w0 W O x ad S n g L) {k : Int} (h1 : ¬ k = 1) (h2 : ¬ k = 2) (h3 : ¬ k = 3) (h4 : ¬ k = 4) (h5 : ¬ k = 5) (h6 : ¬ k = 6) {a b : Nat} {c : Cg} :
    Calls Tryd.prog 7 #[.pointer (some ⟨x, 0, none⟩), .agg (To.row ⟨k, a, b, c⟩)] W fun e w' => e = .returned (.int .i64 (opE S L ⟨k, a, b, c⟩)) ∧ NxL w0 W O x ad S (n + 4 * L.length + 64) g (opL S L ⟨k, a, b, c⟩) w' := by
  have hE : opE S L ⟨k, a, b, c⟩ = 0 := by simp [opE, h1, h2, h3, h4, h5, h6]
  have hL : opL S L ⟨k, a, b, c⟩ = L := by unfold opL; rw [hE, if_pos rfl]; simp [opR, h1, h2, h3, h4, h5, h6]
  have HX := Hid.mk h
  rw [hE, hL]
  have gB := heap_alloc_new W (.cells (To.row ⟨k, a, b, c⟩) 35)
  have hB := below_new W (.cells (To.row ⟨k, a, b, c⟩) 35)
  obtain ⟨p0, p1, p2, p3, p4, p5, p6, p7, p8, p9⟩ := cells10 gB
  clear h hE hL
  go_enter Tryd.func7, Tryd.ntmps7
  go_wp2
  go_ret
  refine ⟨rfl, ?_⟩
  have := HX.out.keep hB (4 * L.length + 64)
  rw [← Nat.add_assoc] at this
  exact this
theorem done_c {w0 W : World} {O : Nat → Prop} {x ad S n : Nat} {g : Nat → Nat} {L : List Nd} (h : TrL w0 W O x ad S n g L) (hl : L.length ≤ 65536) (hn : n + 4 * L.length + 64 < 100000000) {q : To} (hq : q.Ok) (hza : Zr g q.a) (hzb : Zr g q.b) :
    Calls Tryd.prog 7 #[.pointer (some ⟨x, 0, none⟩), .agg q.row] W fun e w' => e = .returned (.int .i64 (opE S L q)) ∧ NxL w0 W O x ad S (n + 4 * L.length + 64) g (opL S L q) w' := by
  obtain ⟨k, a, b, c⟩ := q
  obtain ⟨ha, hb, hc⟩ := hq
  dsimp only at ha hb hc hza hzb
  by_cases h1 : k = 1
  · subst h1; exact done_1 h hl hn ha hza hb hzb hc
  by_cases h2 : k = 2
  · subst h2; exact done_2 h hl hn ha hza hb hzb hc
  by_cases h3 : k = 3
  · subst h3; exact done_3 h hl hn ha hza hb hzb hc
  by_cases h4 : k = 4
  · subst h4; exact done_4 h hl hn ha hza hb hzb hc
  by_cases h5 : k = 5
  · subst h5; exact done_5 h hl hn ha hza hb hzb hc
  by_cases h6 : k = 6
  · subst h6; exact done_6 h hl hn ha hza hb hzb hc
  exact done_0 h h1 h2 h3 h4 h5 h6
/-- The memory beside a tree. -/
theorem TrS.get {w0 W : World} {O : Nat → Prop} {x ad S n : Nat} {g : Nat → Nat} {σ : Nat → Option Sl} {fs ct : Nat} (h : TrS w0 W O x ad S n g σ fs ct) {y : Nat} (hy : y % 8 = 0) (hlt : y < S) (hn : σ (y / 32 * 32) = none) : Calls Tryd.prog 18 #[.pointer (some ⟨ad, 0, none⟩), .int .u64 (y : Nat)] W fun e w' => e = .returned (.tuple #[.int .u64 (g y : Nat), .int .i64 0]) ∧ Below W.heap.size W w' := by
  have hS := h.sm
  obtain ⟨f, hm, hs⟩ := h.mem
  have := read_c hm y (by omega)
  rw [hs.out y hy hn, show errA S y = 0 by unfold errA; rw [if_neg (fun c => c hy), if_neg (by omega)]] at this
  exact this
theorem TrS.lay {w0 W : World} {O : Nat → Prop} {x ad S n : Nat} {g : Nat → Nat} {σ : Nat → Option Sl} {fs ct : Nat} (h : TrS w0 W O x ad S n g σ fs ct) (hn0 : n < 100000000) {y v : Nat} (hy : y % 8 = 0) (hlt : y < S) (hn : σ (y / 32 * 32) = none) (hv : v < 18446744073709551616) : Calls Tryd.prog 17 #[.pointer (some ⟨ad, 0, none⟩), .int .u64 (y : Nat), .int .u64 (v : Nat)] W fun e w' => e = .returned (.int .i64 0) ∧ NxS w0 W O x ad S (n + 1) (updF g y v) σ fs ct w' := by
  have hS := h.sm
  obtain ⟨f, hm, hs⟩ := h.mem
  have hE : errA S y = 0 := by unfold errA; rw [if_neg (fun c => c hy), if_neg (by omega)]
  have := write_c hm hn0 y v (by omega) hv
  rw [show wrF f S y v = updF f y v by unfold wrF; rw [if_pos hE], hE] at this
  refine this.mono fun e w' hh => ⟨hh.1, h.wrote ⟨_, hh.2.1, hh.2.2, fun i q hi => ?_⟩ (hs.reg hy hn v) h.z0⟩
  rcases q with q | q
  · exact q
  · omega
theorem TrS.wds {w0 W : World} {O : Nat → Prop} {x ad S n : Nat} {g : Nat → Nat} {σ : Nat → Option Sl} {fs ct : Nat} (h : TrS w0 W O x ad S n g σ fs ct) (hσ : σ = fun _ => none) (hg : ∀ y, g y = 0) : Calls Tryd.prog 20 #[.pointer (some ⟨ad, 0, none⟩)] W fun e w' => e = .returned (.int .i64 0) ∧ Below W.heap.size W w' := by
  obtain ⟨f, hm, hs⟩ := h.mem
  have := words_c hm
  rw [show wordsN f S = 0 from cnt_zero fun i _ => by rw [hs.out (8 * i) (by omega) (by rw [hσ]), hg]; rfl] at this
  exact this
end TE
end Go.Proofs.YtcmndefjmhcbhaaDoor

/- What the laws begin with. -/
set_option linter.unusedVariables false
namespace Go.Proofs.YtcmndefjmhcbhaaDoor
open Go.RowKit
namespace TE

theorem results_ttc {fn : Func} {p u q : Tmp} {ty : TypeId} (h : fn.results = #[.tmp u, .tmp q, .cell p ty]) (tmps : Array Value) (P : Program) (w : World) :
    (results fn tmps).run P w =
      ((asAddr (tmps.getD p undef)).run P w).andThen fun a w₁ => ((loadVar ty a).run P w₁).andThen fun v w₂ => .ok (.tuple #[tmps.getD u undef, tmps.getD q undef, v]) w₂ := by
  simp only [results, h]
  simp [Sem.run_bind, Result.andThen]
theorem res_ttr {P : Program} {fn : Func} {p u q : Tmp} {ty : TypeId} (h : fn.results = #[.tmp u, .tmp q, .cell p ty]) (tmps : Array Value) (w : World) (g : Nat) (t : TypeId) (cs : Array Value) (fr : Nat × Nat) (d : TypeDesc)
    (hp : tmps.getD p undef = .pointer (some ⟨g, 0, none⟩)) (hg : w.heap[g]? = some (.cells cs t fr))
    (hu : P.underlying ty = some d) (hd : (match d with | .struct _ | .array _ _ => true | _ => false) = true) (hi : (P.info? ty).map (·.size) = some cs.size) :
    (results fn tmps).run P w = .ok (.tuple #[tmps.getD u undef, tmps.getD q undef, .agg cs]) w := by
  rw [results_ttc h, hp]
  simp [asAddr, run_loadVar_row w g t ty cs fr d hg hu hd hi, Result.andThen]
theorem infoT : (Tryd.prog.info? 29).map (·.size) = some 2 := by kernel_rfl
theorem wf_nil (S : Nat) : Wf S [] := ⟨List.nodup_nil, fun c => (by cases c), fun n h => (by cases h)⟩
theorem sg_nil : sg 0 [] 0 = fun _ => none := rfl
set_option maxRecDepth 100000 in
set_option maxHeartbeats 4000000 in
theorem opened_c (w : World) (hp : SPrts w) : Calls Tryd.prog 6 #[] w fun e w' => ∃ x ad O, e = .returned (.tuple #[.pointer (some ⟨x, 0, none⟩), .pointer (some ⟨ad, 0, none⟩), .agg #[.int .u64 65536, .slice none 0 0]]) ∧ TrL w w' O x ad 65536 0 (fun _ => 0) [] := by
  have gR := heap_alloc_new w (.cells #[.int .u64 0, .slice none 0 0] 29)
  have hB := below_new w (.cells #[.int .u64 0, .slice none 0 0] 29)
  have hs0 : (w.alloc (.cells #[.int .u64 0, .slice none 0 0] 29)).heap.size = w.heap.size + 1 := by simp
  go_enter Tryd.func6, Tryd.ntmps6
  go_upto_region 1 with fail
  generalize w.alloc (.cells #[.int .u64 0, .slice none 0 0] 29) = W0 at *
  go_wp2_with fail
  refine (_root_.Go.Proofs.YtcmndefjmhcbhaaDoor.new_ok 65536 (by decide) _).mono ?_
  rintro e w1 ⟨a, rfl, hM, hb⟩
  have gT := heap_alloc_new w1 (.cells #[.int .u64 65536, .slice none 0 0] 29)
  have hbT := below_new w1 (.cells #[.int .u64 65536, .slice none 0 0] 29)
  have gR2 := block_later (below_tr hb hbT) gR
  have hB2 := below_tr hB (below_tr hb hbT)
  have hM2 := hM.below hbT
  have hk := hb.size
  go_upto_region 5 with fail
  generalize w1.alloc (.cells #[.int .u64 65536, .slice none 0 0] 29) = w2 at *
  clear gR hB hb hbT hM
  refine wp_region_noPanic ?_
  refine wp_region_held_drew (S := fun w' => w'.heap[w1.heap.size]? = some (.cells #[.int .u64 65536, .slice none 0 0] 29 (0, 0))) (by kernel_rfl) (block_later (Below.refl _ _).drew gT) (fun hHeld => ?_)
  replace gR2 := block_later (Below.refl _ w2).drew gR2
  replace hB2 := below_tr hB2 (Below.refl _ w2).drew
  replace hM2 := hM2.below (Below.refl _ w2).drew
  have gT2 := block_later (Below.refl _ w2).drew gT
  clear gT
  generalize w2.drew = wd at *
  have hx1 := block_lt gT2
  refine take_at (i := 0) (v := ?_) 18 rfl rfl (by kernel_rfl) (by kernel_rfl) (by kernel_rfl) (fun _ _ _ h => h) (Or.inl ⟨by rfl, ?_⟩) (by assumption) ?_
  rotate_left
  · (intro w' hSw; (try dsimp only at hSw); go_simp; all_goals with_reducible rfl)
  try simp only [Act.put, List.setIfInBounds_toArray, List.set_cons_zero, List.set_cons_succ]
  refine take_at (i := 2) (v := ?_) 20 rfl rfl (by kernel_rfl) (by kernel_rfl) (by kernel_rfl) (fun _ _ _ h => h) (Or.inl ⟨by rfl, ?_⟩) (by assumption) ?_
  rotate_left
  · (intro w' hSw; (try dsimp only at hSw); go_simp; all_goals with_reducible rfl)
  try simp only [Act.put, List.setIfInBounds_toArray, List.set_cons_zero, List.set_cons_succ]
  refine take_at (i := 3) (v := .agg (#[.int .u64 65536, .slice none 0 0])) 21 rfl rfl (by kernel_rfl) (by kernel_rfl) (by kernel_rfl) (fun _ _ _ h => h) (Or.inl ⟨by rfl, fun w' hSw => exec_row rfl rfl (hSw) Tryd.underlying29 rfl (infoT.trans (congrArg some (show (#[.int .u64 65536, .slice none 0 0] : Array Value).size = 2 from rfl).symm))⟩) (by assumption) ?_
  try simp only [Act.put, List.setIfInBounds_toArray, List.set_cons_zero, List.set_cons_succ]
  refine wpAnyH_ready (rs := [1]) (by kernel_rfl) (by simp) ?_
  refine AllReadyH.cons rfl (fun K hK => ?_) AllReadyH.nil
  go_simp
  refine (tnew_c a _).mono ?_
  rintro e w3 ⟨rfl, hx, hb3⟩
  go_wp2_with fail
  refine hK.out _ _ (block_later hb3 gT2) (fun hHeld2 => ?_)
  clear hK
  try simp only [Act.put, List.setIfInBounds_toArray, List.set_cons_zero, List.set_cons_succ]
  refine take_at (i := 4) (v := ?_) 0 rfl rfl (by kernel_rfl) (by kernel_rfl) (by kernel_rfl) (fun _ _ _ h => h) (Or.inl ⟨by rfl, ?_⟩) (by assumption) ?_
  rotate_left
  · (intro w' hSw; (try dsimp only at hSw); go_simp; all_goals with_reducible rfl)
  try simp only [Act.put, List.setIfInBounds_toArray, List.set_cons_zero]
  refine take_at (i := 5) (v := ?_) 1 rfl rfl (by kernel_rfl) (by kernel_rfl) (by kernel_rfl) (fun _ _ _ h => h) (Or.inl ⟨by rfl, ?_⟩) (by assumption) ?_
  rotate_left
  · (intro w' hSw; (try dsimp only at hSw); go_simp; all_goals with_reducible rfl)
  try simp only [Act.put, List.setIfInBounds_toArray, List.set_cons_zero, List.set_cons_succ]
  refine wpAnyH_ready (rs := [6]) (by kernel_rfl) (by simp) ?_
  refine AllReadyH.cons rfl (fun K hK => ?_) AllReadyH.nil
  refine step_store_seg rfl rfl 29 _ _ rfl (w.heap.size) 0 _ #[.int .u64 65536, .slice none 0 0] rfl rfl rfl 29 _ (block_later hb3 gR2) (show 0 + 2 ≤ 2 by decide) infoT (by simp [Value.oneCell']) #[.int .u64 65536, .slice none 0 0] rfl ?_
  intro ws hrq htq
  refine hK.out _ _ (turn_row htq (block_later hb3 gT2) (fun c : w1.heap.size = w.heap.size => by omega)) (fun hHeld3 => ?_)
  clear hK
  try simp only [Act.put, List.setIfInBounds_toArray, List.set_cons_zero, List.set_cons_succ]
  refine wpAnyH_done (by kernel_rfl) ?_ _
  refine NoPanic.normal ?_
  go_wp2
  refine bodyPost_ret (res_ttr rfl _ ws w.heap.size 29 #[.int .u64 65536, .slice none 0 0] (0, 0) _ rfl hrq Tryd.underlying29 rfl infoT) rfl ?_
  refine ⟨_, _, _, rfl, TrS.init hp ?_ (X := fun i => W0.heap.size ≤ i ∧ i < w1.heap.size) (fun i q => by have := q.1; omega) (by omega) (fun q => by have := q.2; omega) ?_ ?_, wf_nil _⟩
  · exact below_turn (below_tr hB2 hb3) htq (Nat.le_refl _)
  · exact turn_row htq hx (fun c : wd.heap.size = w.heap.size => by omega)
  · exact (hM2.below hb3).turn htq (fun i q (c : i = w.heap.size) => by have := q.1; omega)
theorem info7c : (Tryd.prog.info? 33).map (·.size) = some 7 := by kernel_rfl
def thr (a : Nat) : Cg := ⟨8, a, 7, 0, 0, 0, 0⟩
set_option maxRecDepth 100000 in
set_option maxHeartbeats 4000000 in
theorem thread_c (a : Nat) (W : World) : Calls Tryd.prog 10 #[.int .u64 (a : Nat)] W fun e w' => e = .returned (.agg (thr a).row) ∧ Below W.heap.size W w' := by
  have gC := heap_alloc_new W (.cells #[.int .i64 0, .int .u64 0, .int .i64 0, .int .i64 0, .int .i64 0, .int .i64 0, .int .u64 0] 33)
  have hB := below_new W (.cells #[.int .i64 0, .int .u64 0, .int .i64 0, .int .i64 0, .int .i64 0, .int .i64 0, .int .u64 0] 33)
  go_enter Tryd.func10, Tryd.ntmps10
  go_upto_region 1 with fail
  generalize W.alloc (.cells #[.int .i64 0, .int .u64 0, .int .i64 0, .int .i64 0, .int .i64 0, .int .i64 0, .int .u64 0] 33) = W0 at *
  go_wp2_with (first
    | (refine wpList_store_segTo rfl 33 _ _ rfl rfl (W.heap.size) 0 _ (thr a).row rfl rfl rfl 33 _ gC (show 0 + 7 ≤ 7 by decide) info7c (by simp [thr, Cg.row, Value.oneCell']) (thr a).row rfl ?_; intro wq hrq htq)
    | fail)
  refine bodyPost_ret (results_cell_row rfl _ _ (W.heap.size) 33 _ _ _ rfl hrq Tryd.underlying33 rfl info7c) rfl ?_
  exact ⟨rfl, below_turn hB htq (Nat.le_refl _)⟩
theorem thr_ok {a : Nat} (h : a < 18446744073709551616) : (thr a).Ok := ⟨h, by show (0 : Nat) < _; decide⟩
/-- A slice of words that can be read. -/
def WsAt (w : World) (v : Value) (xs : List Nat) : Prop := ∃ ad cap, v = .slice ad xs.length cap ∧ ∀ i (hi : i < xs.length), ∃ g, ad = some ⟨g, 0, none⟩ ∧ w.cell? ⟨g, i, none⟩ = some (.int .u64 (xs[i] : Nat))
theorem WsAt.later {w w' : World} {v : Value} {xs : List Nat} (h : WsAt w v xs) (hb : Below w.heap.size w w') : WsAt w' v xs := by
  obtain ⟨ad, cap, rfl, h1⟩ := h
  refine ⟨ad, cap, rfl, fun i hi => ?_⟩
  obtain ⟨g, e, hc⟩ := h1 i hi
  exact ⟨g, e, cell_later hb hc⟩
theorem own_ws {w : World} {base N : Nat} {v : Value} {xs : List Nat} (h : w.ownsRow base 23 1 v N (xs.map fun p => .int .u64 (p : Nat))) (hN : N = xs.length) : WsAt w v xs := by
  subst hN
  rcases h.2 with ⟨rfl, hz⟩ | ⟨g, cap, cur, rfl, hbase, hb, r1, r2, r3, r4⟩
  · have : xs = [] := List.eq_nil_of_length_eq_zero hz
    subst this
    exact ⟨none, 0, rfl, fun i hi => absurd hi (Nat.not_lt_zero _)⟩
  · refine ⟨_, cap, rfl, fun i hi => ⟨g, rfl, ?_⟩⟩
    have h5 : (cur.toList.take (xs.length * 1))[i]? = (xs.map fun p => Value.int .u64 (p : Nat))[i]? := by rw [r4]
    rw [List.getElem?_take_of_lt (by omega)] at h5
    simp only [World.cell?, hb]
    simp only [Option.isSome_none, Bool.false_eq_true, if_false]
    rw [← Array.getElem?_toList, h5, List.getElem?_map, List.getElem?_eq_getElem hi]; rfl
set_option maxRecDepth 100000 in
set_option maxHeartbeats 4000000 in
theorem listed_c {w : World} {v1 v2 : Value} {xs : List Nat} (h1 : WsAt w v1 xs) (h2 : WsAt w v2 xs) (hl : xs.length ≤ 65536) :
    Calls Tryd.prog 15 #[v1, v2] w fun e w' => e = .returned (.bool true) ∧ Below w.heap.size w w' := by
  obtain ⟨a1, c1, rfl, k1⟩ := h1
  obtain ⟨a2, c2, rfl, k2⟩ := h2
  have K1 := Hid.mk k1
  have K2 := Hid.mk k2
  have HL := Hid.mk hl
  clear k1 k2 hl
  go_enter Tryd.func15, Tryd.ntmps15
  go_wp2
  go_loopw [5, 13] (fun _ s13 wr => ∃ i : Nat, i ≤ xs.length ∧ s13 = .int .i64 (i : Nat) ∧ Below w.heap.size w wr) (fun _ s13 _ => xs.length - (RowKit.intOf s13).toNat)
  case atStart => exact ⟨0, Nat.zero_le _, rfl, Below.refl _ _⟩
  case round =>
    obtain ⟨i, hi, rfl, hb⟩ := hrel
    by_cases hlt : i < xs.length
    · have hlt2 : (i : Int) < xs.length := by omega
      obtain ⟨g1, rfl, q1⟩ := K1.out i hlt
      obtain ⟨g2, rfl, q2⟩ := K2.out i hlt
      have r1 := cell_later hb q1
      have r2 := cell_later hb q2
      have hib : (i : Int) < 65536 := by have := HL.out; omega
      have HLT := Hid.mk hlt
      have HB := Hid.mk hb
      clear q1 q2 hi hb
      generalize xs[i] = X at r1 r2
      clear hlt
      go_upto_region 6 with fail
      go_quiet (fail)
      go_wp2
      go_roundw
      case rel => exact ⟨i + 1, by have := HLT.out; omega, by go_num, below_drewN HB.out _⟩
      case measure => have := HLT.out; simp [RowKit.intOf]; omega
    · have hlt2 : ¬ (i : Int) < xs.length := by omega
      clear hlt hi
      go_wp2
      go_ret
      exact ⟨rfl, hb⟩
end TE
end Go.Proofs.YtcmndefjmhcbhaaDoor

/- The document's example. -/
set_option linter.unusedVariables false
namespace Go.Proofs.YtcmndefjmhcbhaaDoor
open Go.RowKit
namespace TE

theorem ws_lit {w : World} {v : Value} {xs : List Nat} (h : WsAt w v xs) (hx : xs ≠ []) : ∃ g cap, v = .slice (some ⟨g, 0, none⟩) xs.length cap ∧ ∀ i (hi : i < xs.length), w.cell? ⟨g, i, none⟩ = some (.int .u64 (xs[i] : Nat)) := by
  obtain ⟨ad, cap, rfl, h1⟩ := h
  have h0 : 0 < xs.length := List.length_pos_iff.2 hx
  obtain ⟨g, rfl, -⟩ := h1 0 h0
  refine ⟨g, cap, rfl, fun i hi => ?_⟩
  obtain ⟨g', e, hc⟩ := h1 i hi
  cases e
  exact hc
def A1 : List Nd := [⟨256, (thr 0).cp, 0⟩]
def A2 : List Nd := [⟨256, (thr 0).cp, 0⟩, ⟨288, (thr 128).cp, 1⟩]
def A3 : List Nd := [⟨256, (thr 0).cp, 0⟩, ⟨320, (thr 256).cp, 1⟩, ⟨288, (thr 128).cp, 1⟩]
def A4 : List Nd := [⟨320, (thr 256).cp, 0⟩, ⟨288, (thr 128).cp, 0⟩]
section
variable {w W : World} {O : Nat → Prop} {x ad : Nat}
theorem zr0 (y : Nat) : Zr (fun _ => 0) y := fun _ => ⟨rfl, rfl, rfl, rfl⟩
theorem an_1 (h : TrL w W O x ad 65536 0 (fun _ => 0) []) : Calls Tryd.prog 21 #[.pointer (some ⟨x, 0, none⟩), .int .u64 256, .agg (thr 0).row] W fun e w' => e = .returned (.int .i64 0) ∧ ∃ O', TrL w w' O' x ad 65536 20 (fun _ => 0) A1 := by
  have := root_l h (by decide) (y := 256) (by decide) (zr0 _) (thr_ok (a := 0) (by decide))
  have e : maE 65536 (sg 0 [] 0) 256 ([] : List Nd).length (thr 0).ft = 0 := by decide +kernel
  rw [if_pos e, e] at this
  exact this.mono fun e w' hh => ⟨hh.1, by obtain ⟨O', q, -⟩ := hh.2.open_; exact ⟨O', q⟩⟩
theorem an_2 (h : TrL w W O x ad 65536 20 (fun _ => 0) A1) : Calls Tryd.prog 9 #[.pointer (some ⟨x, 0, none⟩), .int .u64 256, .int .u64 288, .agg (thr 128).row] W fun e w' => e = .returned (.int .i64 0) ∧ ∃ O', TrL w w' O' x ad 65536 40 (fun _ => 0) A2 := by
  have := child_l h (by decide) (p := 256) (y := 288) (by decide) (zr0 _) (by decide) (zr0 _) (thr_ok (a := 128) (by decide))
  have e : chE 65536 A1 256 288 (thr 128).ft = 0 := by decide +kernel
  have e2 : insA 256 288 (thr 128).cp A1 = A2 := rfl
  rw [if_pos e, e, e2] at this
  exact this.mono fun e w' hh => ⟨hh.1, by obtain ⟨O', q, -⟩ := hh.2.open_; exact ⟨O', q⟩⟩
theorem an_3 (h : TrL w W O x ad 65536 40 (fun _ => 0) A2) : Calls Tryd.prog 9 #[.pointer (some ⟨x, 0, none⟩), .int .u64 256, .int .u64 320, .agg (thr 256).row] W fun e w' => e = .returned (.int .i64 0) ∧ ∃ O', TrL w w' O' x ad 65536 60 (fun _ => 0) A3 := by
  have := child_l h (by decide) (p := 256) (y := 320) (by decide) (zr0 _) (by decide) (zr0 _) (thr_ok (a := 256) (by decide))
  have e : chE 65536 A2 256 320 (thr 256).ft = 0 := by decide +kernel
  have e2 : insA 256 320 (thr 256).cp A2 = A3 := rfl
  rw [if_pos e, e, e2] at this
  exact this.mono fun e w' hh => ⟨hh.1, by obtain ⟨O', q, -⟩ := hh.2.open_; exact ⟨O', q⟩⟩
theorem an_l (h : TrL w W O x ad 65536 60 (fun _ => 0) A3) : Calls Tryd.prog 19 #[.pointer (some ⟨x, 0, none⟩)] W fun e w' => (∃ g cap, e = .returned (.slice (some ⟨g, 0, none⟩) 3 cap) ∧ w'.cell? ⟨g, 1, none⟩ = some (.int .u64 320) ∧ w'.cell? ⟨g, 2, none⟩ = some (.int .u64 288)) ∧ Below W.heap.size W w' := by
  refine (list_c h (by decide)).mono ?_
  rintro e w' ⟨v, rfl, h1, h2, h3⟩
  obtain ⟨g, cap, rfl, hc⟩ := ws_lit (own_ws (xs := ps A3) h1 rfl) (by decide)
  exact ⟨⟨g, cap, rfl, hc 1 (by decide), hc 2 (by decide)⟩, h3⟩
theorem an_b (h : TrL w W O x ad 65536 60 (fun _ => 0) A3) : Calls Tryd.prog 11 #[.pointer (some ⟨x, 0, none⟩), .int .u64 256] W fun e w' => (∃ ad cap, e = .returned (.slice ad 2 cap)) ∧ Below W.heap.size W w' := by
  refine (below_l h (by decide) (y := 256) (by decide) (zr0 _)).mono ?_
  rintro e w' ⟨v, rfl, h1, h2, h3⟩
  obtain ⟨ad, cap, rfl, hc⟩ := own_ws (xs := ps (undL 256 A3)) h1 rfl
  exact ⟨⟨ad, cap, rfl⟩, h3⟩
theorem an_r (h : TrL w W O x ad 65536 60 (fun _ => 0) A3) : Calls Tryd.prog 16 #[.pointer (some ⟨x, 0, none⟩), .int .u64 256] W fun e w' => e = .returned (.int .i64 0) ∧ ∃ O', TrL w w' O' x ad 65536 84 (fun _ => 0) A4 := by
  have := remove_l h (by decide) (by decide) (y := 256) (by decide) (zr0 _)
  have e : reE 65536 A3 256 = 0 := by decide +kernel
  have e2 : remL 256 A3 = A4 := rfl
  rw [if_pos e, e, e2] at this
  exact this.mono fun e w' hh => ⟨hh.1, by obtain ⟨O', q, -⟩ := hh.2.open_; exact ⟨O', q⟩⟩
theorem an_d1 (h : TrL w W O x ad 65536 84 (fun _ => 0) A4) : Calls Tryd.prog 12 #[.pointer (some ⟨x, 0, none⟩), .int .u64 320] W fun e w' => e = .returned (.int .i64 0) ∧ Below W.heap.size W w' := depth_ok h.1 (p := 320) (t := ⟨(thr 256).cp, 288, 0, 0⟩) rfl
theorem an_d2 (h : TrL w W O x ad 65536 84 (fun _ => 0) A4) : Calls Tryd.prog 12 #[.pointer (some ⟨x, 0, none⟩), .int .u64 288] W fun e w' => e = .returned (.int .i64 0) ∧ Below W.heap.size W w' := depth_ok h.1 (p := 288) (t := ⟨(thr 128).cp, 0, 320, 0⟩) rfl
theorem an_d3 (h : TrL w W O x ad 65536 84 (fun _ => 0) A4) : Calls Tryd.prog 12 #[.pointer (some ⟨x, 0, none⟩), .int .u64 256] W fun e w' => e = .returned (.int .i64 (-1)) ∧ Below W.heap.size W w' := depth_no h.1 (p := 256) (by decide) (zr0 _) rfl
end
set_option maxRecDepth 100000 in
set_option maxHeartbeats 8000000 in
theorem anchor_c (w : World) (hp : SPrts w) : Calls Tryd.prog 5 #[] w fun e w' => e = .returned (.bool true) ∧ Below w.heap.size w w' := by
  go_enter Tryd.func5, Tryd.ntmps5
  go_wp2_with fail
  refine (opened_c _ hp).mono ?_
  rintro e w1 ⟨x, ad, O, rfl, h⟩
  replace h := Hid.mk (h.later (below_new w1 (.cells #[.int .u64 65536, .slice none 0 0] 29)))
  go_upto_region 2 with fail
  generalize w1.alloc (.cells #[.int .u64 65536, .slice none 0 0] 29) = w2 at *
  go_wp2_with fail
  refine (thread_c 0 _).mono ?_
  rintro e w3 ⟨rfl, hb⟩
  replace h := Hid.mk (h.out.later hb)
  clear hb
  go_wp2_with fail
  refine (an_1 h.out).mono ?_
  clear h
  rintro e w4 ⟨rfl, O1, h⟩
  replace h := Hid.mk h
  go_wp2_with fail
  refine (thread_c 128 _).mono ?_
  rintro e w5 ⟨rfl, hb⟩
  replace h := Hid.mk (h.out.later hb)
  clear hb
  go_wp2_with fail
  refine (an_2 h.out).mono ?_
  clear h
  rintro e w6 ⟨rfl, O2, h⟩
  replace h := Hid.mk h
  go_wp2_with fail
  refine (thread_c 256 _).mono ?_
  rintro e w7 ⟨rfl, hb⟩
  replace h := Hid.mk (h.out.later hb)
  clear hb
  go_wp2_with fail
  refine (an_3 h.out).mono ?_
  clear h
  rintro e w8 ⟨rfl, O3, h⟩
  replace h := Hid.mk h
  go_wp2_with fail
  refine (an_l h.out).mono ?_
  rintro e w9 ⟨⟨g, cap, rfl, q1, q2⟩, hb⟩
  replace h := Hid.mk (h.out.later hb)
  clear hb
  go_wp2_with fail
  refine (an_b h.out).mono ?_
  rintro e w10 ⟨⟨ad2, cap2, rfl⟩, hb⟩
  replace h := Hid.mk (h.out.later hb)
  replace q1 := cell_later hb q1
  replace q2 := cell_later hb q2
  clear hb
  go_wp2_with fail
  refine (an_r h.out).mono ?_
  clear h q1 q2
  rintro e w11 ⟨rfl, O4, h⟩
  replace h := Hid.mk h
  go_wp2_with fail
  refine (an_d1 h.out).mono ?_
  rintro e w12 ⟨rfl, hb⟩
  replace h := Hid.mk (h.out.later hb)
  clear hb
  go_wp2_with fail
  refine (an_d2 h.out).mono ?_
  rintro e w13 ⟨rfl, hb⟩
  replace h := Hid.mk (h.out.later hb)
  clear hb
  go_wp2_with fail
  refine (an_d3 h.out).mono ?_
  rintro e w14 ⟨rfl, hb⟩
  replace h := Hid.mk (h.out.later hb)
  clear hb
  go_wp2
  go_ret
  exact ⟨rfl, h.out.1.hb⟩
end TE
end Go.Proofs.YtcmndefjmhcbhaaDoor

set_option linter.unusedVariables false
namespace Go.Proofs.YtcmndefjmhcbhaaDoor
open Go.RowKit
namespace TE

section
variable {w W : World} {O : Nat → Prop} {x ad S n a b d k : Nat} {L : List Nd} {l : List Nat}
theorem Kid.alt (K : Kid L a b d k l) (h : TrL w W O x ad S n (fun _ => 0) L) : Calls Tryd.prog 12 #[.pointer (some ⟨x, 0, none⟩), .int .u64 (a : Nat)] W fun e w' => e = .returned (.int .i64 (d : Nat)) ∧ Below W.heap.size W w' := by
  obtain ⟨s, hs, rfl⟩ := K.ha
  exact depth_ok h.1 hs
theorem Kid.blt (K : Kid L a b d k l) (h : TrL w W O x ad S n (fun _ => 0) L) : Calls Tryd.prog 12 #[.pointer (some ⟨x, 0, none⟩), .int .u64 (b : Nat)] W fun e w' => e = .returned (.int .i64 ((d : Int) + 1)) ∧ Below W.heap.size W w' := by
  obtain ⟨s, hs, e⟩ := K.hb
  have := depth_ok h.1 hs
  rw [e] at this
  exact this
theorem Kid.cnt (K : Kid L a b d k l) (h : TrL w W O x ad S n (fun _ => 0) L) : Calls Tryd.prog 8 #[.pointer (some ⟨x, 0, none⟩)] W fun e w' => e = .returned (.int .i64 ((k : Int) + 1)) ∧ Below W.heap.size W w' := by
  have := count_c h.1
  rw [K.len] at this
  exact this
theorem Kid.low (K : Kid L a b d k l) (h : TrL w W O x ad S n (fun _ => 0) L) (hl : L.length ≤ 65536) (ha : a < 18446744073709551616) : Calls Tryd.prog 11 #[.pointer (some ⟨x, 0, none⟩), .int .u64 (a : Nat)] W fun e w' => (∃ v, e = .returned v ∧ WsAt w' v (b :: l) ∧ ∀ g, v.ownBlock = some g → W.heap.size ≤ g) ∧ Below W.heap.size W w' := by
  refine (below_l h hl ha (zr0 _)).mono ?_
  rintro e w' ⟨v, rfl, h1, h2, h3⟩
  have := own_ws (xs := ps (undL a L)) h1 (by unfold ps; rw [List.length_map])
  rw [K.bel] at this
  exact ⟨⟨v, rfl, this, fun g hg => (World.ownsRow.lt h1 g hg).1⟩, h3⟩
theorem Kid.ll (K : Kid L a b d k l) : (b :: l).length ≤ L.length := by
  rw [← K.bel]; unfold ps; rw [List.length_map]; exact undL_len a L
theorem WsAt.turn {w w' : World} {v : Value} {xs : List Nat} {Y : Nat → Prop} (h : WsAt w v xs) (ht : Turn Y w w') (hn : ∀ g, v.ownBlock = some g → ¬ Y g) : WsAt w' v xs := by
  obtain ⟨ad, cap, rfl, h1⟩ := h
  refine ⟨ad, cap, rfl, fun i hi => ?_⟩
  obtain ⟨g, rfl, hc⟩ := h1 i hi
  exact ⟨g, rfl, turn_cell ht (hn g (by simp [Value.ownBlock])) hc⟩
theorem Kid.out (K : Kid L a b d k l) (h : TrL w W O x ad S n (fun _ => 0) L) (hl : L.length ≤ 65536) (hn : n + 4 * L.length + 12 < 100000000) (ha : a < 18446744073709551616) : Calls Tryd.prog 16 #[.pointer (some ⟨x, 0, none⟩), .int .u64 (a : Nat)] W fun e w' => e = .returned (.int .i64 0) ∧ ∃ O', TrL w w' O' x ad S (n + 4 * L.length + 12) (fun _ => 0) (remL a L) := by
  have := remove_l h hl hn ha (zr0 _)
  have e : reE S L a = 0 := by
    obtain ⟨A, t, B, rfl, rfl, hA⟩ := part_at K.ain
    unfold reE; rw [fnd_at hA]
  rw [if_pos e, e] at this
  exact this.mono fun e w' hh => ⟨hh.1, by obtain ⟨O', q, -⟩ := hh.2.open_; exact ⟨O', q⟩⟩
theorem Kid.cnt2 (K : Kid L a b d k l) (h : TrL w W O x ad S n (fun _ => 0) (remL a L)) : Calls Tryd.prog 8 #[.pointer (some ⟨x, 0, none⟩)] W fun e w' => e = .returned (.int .i64 (k : Nat)) ∧ Below W.heap.size W w' := by
  have := count_c h.1
  rw [K.rem.1] at this
  exact this
theorem Kid.blt2 (K : Kid L a b d k l) (h : TrL w W O x ad S n (fun _ => 0) (remL a L)) : Calls Tryd.prog 12 #[.pointer (some ⟨x, 0, none⟩), .int .u64 (b : Nat)] W fun e w' => e = .returned (.int .i64 (d : Nat)) ∧ Below W.heap.size W w' := by
  obtain ⟨s, hs, e⟩ := K.rem.2
  have := depth_ok h.1 hs
  rw [e] at this
  exact this
theorem kid_new {S : Nat} {L : List Nd} (hW : Wf S L) (hT : Td 0 L) {a b : Nat} {c : Cp} {f : Bool} (h : chE S L a b f = 0) (hW2 : Wf S (insA a b c L)) :
    ∃ d l, Kid (insA a b c L) a b d L.length l ∧ undL b (insA a b c L) = [] ∧ ∀ y, mvE S (insA a b c L) a y = 0 → Wf S (movL a y (insA a b c L)) → Kid (movL a y (insA a b c L)) y b d L.length l ∧ sg 0 (movL a y (insA a b c L)) 0 a = none := by
  obtain ⟨A, t, B, rfl, rfl, hA, hb, hl⟩ := ch_ok hW h
  rw [insA_at hA] at hW2 ⊢
  have eN : (A ++ t :: B).length = A.length + 1 + B.length := by simp only [List.length_append, List.length_cons]; omega
  rw [eN]
  have hB : Td (t.d + 1) B := hT.split
  refine ⟨t.d, ps (belL t.d B), kid_of (m := ⟨b, c, t.d + 1⟩) hW2.nd rfl, kid_bare (m := ⟨b, c, t.d + 1⟩) hW2.nd rfl hB, fun y hm hW3 => ?_⟩
  have hy := mv_ok hA hm
  rw [movL_at hW2.nd] at hW3 ⊢
  refine ⟨kid_of (t := { t with p := y }) (m := ⟨b, c, t.d + 1⟩) hW3.nd rfl, sg_none (fun hc => ?_) 0 0⟩
  rw [ps_mid] at hc hy
  obtain ⟨nA, nX, dj⟩ := nd_app hW2.nd
  rcases hc with hc | hc | hc
  · exact hA hc
  · exact hy (Or.inr (Or.inl hc.symm))
  · exact (List.nodup_cons.1 nX).1 hc
end
end TE
end Go.Proofs.YtcmndefjmhcbhaaDoor
