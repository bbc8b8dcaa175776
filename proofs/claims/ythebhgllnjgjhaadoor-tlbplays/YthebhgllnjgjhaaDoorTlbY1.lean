/- A step of a play: fills. Made by mktlby.py. -/
import Derived.Test.YthebhgllnjgjhaaDoorTlbX
namespace Go.Proofs.YthebhgllnjgjhaaDoor
open Go.RowKit

theorem cells12 {w1 : World} {g t : Nat} {c0 c1 c2 c3 c4 c5 c6 c7 c8 c9 c10 c11 : Value} (hh : w1.heap[g]? = some (.cells #[c0, c1, c2, c3, c4, c5, c6, c7, c8, c9, c10, c11] t (0, 0))) :
    w1.cell? ⟨g, 0, none⟩ = some c0 ∧ w1.cell? ⟨g, 1, none⟩ = some c1 ∧ w1.cell? ⟨g, 2, none⟩ = some c2 ∧ w1.cell? ⟨g, 3, none⟩ = some c3 ∧ w1.cell? ⟨g, 4, none⟩ = some c4 ∧ w1.cell? ⟨g, 5, none⟩ = some c5 ∧ w1.cell? ⟨g, 6, none⟩ = some c6 ∧ w1.cell? ⟨g, 7, none⟩ = some c7 ∧ w1.cell? ⟨g, 8, none⟩ = some c8 ∧ w1.cell? ⟨g, 9, none⟩ = some c9 ∧ w1.cell? ⟨g, 10, none⟩ = some c10 ∧ w1.cell? ⟨g, 11, none⟩ = some c11 := by
  refine ⟨?_, ?_, ?_, ?_, ?_, ?_, ?_, ?_, ?_, ?_, ?_, ?_⟩
  all_goals (rw [cell_of_row _ _ _ _ _ _ hh]; rfl)
theorem block_x {w w' : World} {X : Nat → Prop} {g : Nat} {o : Obj} (ht : Turn X w w') (h : w.heap[g]? = some o) (hX : ¬ X g) : w'.heap[g]? = some o := (ht.block _ (block_lt h) hX).trans h
theorem fill_len {l : List En} {most : Int} {e : En} (h : (l.length : Int) ≤ most) : ((rfillL l most e).length : Int) ≤ most := by
  unfold rfillL
  split
  · exact h
  · split
    · have : ((l ++ [e]).eraseIdx 0).length = l.length := by cases l <;> simp
      omega
    · simp; omega
theorem fill_mem {l : List En} {most : Int} {e x : En} (h : x ∈ rfillL l most e) : x ∈ l ∨ x = e := by
  unfold rfillL at h
  split at h
  · exact Or.inl h
  · split at h
    · rcases List.mem_append.1 (List.mem_of_mem_eraseIdx h) with h | h
      · exact Or.inl h
      · exact Or.inr (List.mem_singleton.1 h)
    · rcases List.mem_append.1 h with h | h
      · exact Or.inl h
      · exact Or.inr (List.mem_singleton.1 h)

set_option maxHeartbeats 16000000 in
set_option maxRecDepth 1000000 in
theorem step_1 {w0 w : World} {t : Nat} {most : Int} {l : List En} {ad : Option Addr} {cap : Nat} (h : PInv w0 w t most l ad cap) (hm : 1 ≤ most) (hm2 : most ≤ 64) (hF : Flds w0) (e : En) (he : e.ok) (N : Int) :
    Calls Tryd.prog 9 #[.pointer (some ⟨t, 0, none⟩), .int .i64 most, .slice ad l.length cap, .agg #[.int .i64 1, .int .i64 N, .int .i64 e.aid, .int .u64 e.va, .int .i64 e.lv, .int .i64 e.k, .int .u64 e.o, .bool e.u, .bool e.r, .bool e.x, .bool e.s, .int .i64 e.a]] w fun r w' => ∃ l' ad' cap', r = .returned (.tuple #[.slice ad' l'.length cap', .bool true]) ∧ PInv w0 w' t most l' ad' cap' := by
  have HP := Hid.mk h
  have HF := Hid.mk hF
  obtain ⟨X, hBuf, hXlo, hnX⟩ := h.ex
  have hXlt : ∀ i, X i → i < w.heap.size := by obtain ⟨v, h1⟩ := hBuf; exact h1.lt
  have HBUF := Hid.mk hBuf
  have HXLO := Hid.mk hXlo
  have HNX := Hid.mk hnX
  have HXLT := Hid.mk hXlt
  have hlnI : (l.length : Int) ≤ 64 := by have := h.ln; omega
  have HLN : Hid (l.length ≤ 64) := by show _ ≤ _; omega
  have HMO := Hid.mk (And.intro hm hm2)
  have hLS := fun w1 => listed_c e w1
  have hRr := fun w1 => rright_any e he w1
  have hRc := fun w1 h1 => rightE_any e he w1 h1
  have HFI : Hid (∀ W Y, Buf W Y t most l → Flds W → Calls Tryd.prog 11 #[.pointer (some ⟨t, 0, none⟩), e.v] W fun r w' => r = .returned (.int .i64 (fillN e)) ∧ Buf w' (Xp Y W w') t most (fillL l most e) ∧ Turn Y W w') := fun W Y h1 h2 => fill_c e he h1 (by have := HLN.out; omega) h2
  have HRF : Hid (∀ W, RLst W ad cap l → Calls Tryd.prog 24 #[.slice ad l.length cap, .int .i64 most, e.v] W fun r w' => ∃ ad' cap', r = .returned (.slice ad' (rfillL l most e).length cap') ∧ RLst w' ad' cap' (rfillL l most e) ∧ Fs W ad ad' ∧ Below W.heap.size W w') := fun W h1 => rfill_c l e ad cap most W hm (by have := HLN.out; omega) h1
  have HEV : Hid (fillN e = (if rightE e = true then 0 else 10) ∧ fillL l most e = if rightE e = true then rfillL l most e else l) := ⟨rfl, rfl⟩
  have HRT : Hid (rightE e = true → ∀ x ∈ rfillL l most e, rightE x = true) := fun hr x hx => by
    rcases fill_mem hx with h1 | h1
    · exact h.rt x h1
    · rw [h1]; exact hr
  have HRL : Hid (((rfillL l most e).length : Int) ≤ most) := fill_len h.ln
  generalize fillN e = FN at *
  generalize fillL l most e = FL at *
  generalize rfillL l most e = RF at *
  generalize rightE e = R at *
  clear h hF hBuf hXlo hnX hXlt hm hm2
  obtain ⟨a0, a1, a2, a3, a4, a5, a6, a7, a8, a9⟩ := e
  simp only [En.v] at *
  go_enter Tryd.func9, Tryd.ntmps9
  go_wp2_with fail
  refine (hLS _).mono ?_
  rintro e w1 ⟨rfl, hb1⟩
  have K7 := Hid.mk (block_later (below_tr hb1 (below_new w1 (.cells #[.int .i64 a0, .int .u64 a1, .int .i64 a2, .int .i64 a3, .int .u64 a4, .bool a5, .bool a6, .bool a7, .bool a8, .int .i64 a9] 51))) (heap_alloc_new w (.cells #[.int .i64 1, .int .i64 N, .int .i64 a0, .int .u64 a1, .int .i64 a2, .int .i64 a3, .int .u64 a4, .bool a5, .bool a6, .bool a7, .bool a8, .int .i64 a9] 35)))
  have K10 := Hid.mk (heap_alloc_new w1 (.cells #[.int .i64 a0, .int .u64 a1, .int .i64 a2, .int .i64 a3, .int .u64 a4, .bool a5, .bool a6, .bool a7, .bool a8, .int .i64 a9] 51))
  have HB2 := Hid.mk (below_tr (below_tr (below_new w (.cells #[.int .i64 1, .int .i64 N, .int .i64 a0, .int .u64 a1, .int .i64 a2, .int .i64 a3, .int .u64 a4, .bool a5, .bool a6, .bool a7, .bool a8, .int .i64 a9] 35)) hb1) (below_new w1 (.cells #[.int .i64 a0, .int .u64 a1, .int .i64 a2, .int .i64 a3, .int .u64 a4, .bool a5, .bool a6, .bool a7, .bool a8, .int .i64 a9] 51)))
  have HXB : Hid (∀ i, X i → i ≠ w.heap.size ∧ i ≠ w1.heap.size) := fun i hi => by
    have := HXLT.out i hi
    have := (below_tr (below_new w (.cells #[.int .i64 1, .int .i64 N, .int .i64 a0, .int .u64 a1, .int .i64 a2, .int .i64 a3, .int .u64 a4, .bool a5, .bool a6, .bool a7, .bool a8, .int .i64 a9] 35)) hb1).size
    omega
  clear hb1
  go_upto_region 2 with fail
  generalize w1.alloc (.cells #[.int .i64 a0, .int .u64 a1, .int .i64 a2, .int .i64 a3, .int .u64 a4, .bool a5, .bool a6, .bool a7, .bool a8, .int .i64 a9] 51) = w2 at *
  generalize w1.heap.size = B10 at *
  obtain ⟨k0, k1, k2, k3, k4, k5, k6, k7, k8, k9, k10, k11⟩ := cells12 K7.out
  obtain ⟨q0, q1, q2, q3, q4, q5, q6, q7, q8, q9⟩ := cells10 K10.out
  cases R
  · rw [if_neg (by decide), if_neg (by decide)] at HEV
    obtain ⟨rfl, rfl⟩ := HEV.out
    go_wp2_with fail
    refine (hRr _).mono ?_
    rintro e w3 ⟨rfl, hb3⟩
    have HB3 := Hid.mk (below_tr HB2.out hb3)
    have K7b := Hid.mk (block_later hb3 K7.out)
    clear k0 k1 k2 k3 k4 k5 k6 k7 k8 k9 k10 k11 q0 q1 q2 q3 q4 q5 q6 q7 q8 q9 K7 K10 hb3 hRr HRF
    obtain ⟨k0, k1, k2, k3, k4, k5, k6, k7, k8, k9, k10, k11⟩ := cells12 K7b.out
    go_wp2_with fail
    refine (HFI.out _ X (HBUF.out.later HB3.out) (HF.out.later (below_tr HP.out.bel HB3.out))).mono ?_
    rintro e w4 ⟨rfl, hB4, ht4⟩
    have HPN := Hid.mk (HP.out.next HXLO.out HB3.out (HP.out.rl.later HB3.out) HNX.out ht4 hB4 (Or.inr rfl) HP.out.rt HP.out.ln)
    have K7c := Hid.mk (block_x ht4 K7b.out (fun hx => (HXB.out _ hx).1 rfl))
    clear k0 k1 k2 k3 k4 k5 k6 k7 k8 k9 k10 k11 K7b hB4 ht4 HFI
    obtain ⟨k0, k1, k2, k3, k4, k5, k6, k7, k8, k9, k10, k11⟩ := cells12 K7c.out
    go_wp2_with fail
    refine (hRc _ (HF.out.later HPN.out.bel)).mono ?_
    rintro e w5 ⟨rfl, hb5⟩
    go_wp2
    go_ret2
    exact ⟨_, _, _, rfl, HPN.out.later hb5⟩
  · rw [if_pos rfl, if_pos rfl] at HEV
    obtain ⟨rfl, rfl⟩ := HEV.out
    go_wp2_with fail
    refine (hRr _).mono ?_
    rintro e w3 ⟨rfl, hb3⟩
    have HB3 := Hid.mk (below_tr HB2.out hb3)
    have K7b := Hid.mk (block_later hb3 K7.out)
    have K10b := Hid.mk (block_later hb3 K10.out)
    clear k0 k1 k2 k3 k4 k5 k6 k7 k8 k9 k10 k11 q0 q1 q2 q3 q4 q5 q6 q7 q8 q9 K7 K10 hb3 hRr
    obtain ⟨q0, q1, q2, q3, q4, q5, q6, q7, q8, q9⟩ := cells10 K10b.out
    go_wp2_with fail
    refine (HRF.out _ (HP.out.rl.later HB3.out)).mono ?_
    rintro e w4 ⟨ad', cap', rfl, hr4, hfs, hb4⟩
    have HB4 := Hid.mk (below_tr HB3.out hb4)
    have HR4 := Hid.mk hr4
    have HN4 := Hid.mk (hfs.not HNX.out (fun i hi => Nat.lt_of_lt_of_le (HXLT.out i hi) HB3.out.size) (Nat.le_refl _))
    have K7c := Hid.mk (block_later hb4 K7b.out)
    clear q0 q1 q2 q3 q4 q5 q6 q7 q8 q9 K7b K10b hr4 hfs hb4 HRF
    obtain ⟨k0, k1, k2, k3, k4, k5, k6, k7, k8, k9, k10, k11⟩ := cells12 K7c.out
    go_wp2_with fail
    refine (HFI.out _ X (HBUF.out.later HB4.out) (HF.out.later (below_tr HP.out.bel HB4.out))).mono ?_
    rintro e w5 ⟨rfl, hB5, ht5⟩
    have HPN := Hid.mk (HP.out.next HXLO.out HB4.out HR4.out HN4.out ht5 hB5 (Or.inr rfl) (HRT.out (by trivial)) HRL.out)
    have K7d := Hid.mk (block_x ht5 K7c.out (fun hx => (HXB.out _ hx).1 rfl))
    clear k0 k1 k2 k3 k4 k5 k6 k7 k8 k9 k10 k11 K7c hB5 ht5 HFI
    obtain ⟨k0, k1, k2, k3, k4, k5, k6, k7, k8, k9, k10, k11⟩ := cells12 K7d.out
    go_wp2_with fail
    refine (hRc _ (HF.out.later HPN.out.bel)).mono ?_
    rintro e w6 ⟨rfl, hb6⟩
    go_wp2
    go_ret2
    exact ⟨_, _, _, rfl, HPN.out.later hb6⟩

end Go.Proofs.YthebhgllnjgjhaaDoor
