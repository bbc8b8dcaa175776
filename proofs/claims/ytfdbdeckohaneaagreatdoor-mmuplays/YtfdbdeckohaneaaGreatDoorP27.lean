/- P27 -/
import Derived.Test.YtfdbdeckohaneaaGreatDoorP26
import Derived.Test.YtfdbdeckohaneaaGreatDoorP25
import Derived.Test.YtfdbdeckohaneaaGreatDoorP15
import Derived.Test.YtfdbdeckohaneaaGreatDoorP11
set_option maxHeartbeats 16000000
set_option maxRecDepth 100000
namespace Go.Proofs.YtfdbdeckohaneaaGreatDoor.TR
open Go.RowKit Go.Maps
def isT (l : Int) (x : Nat) : Bool := isLv l && (qde l x && decide (rdK l x = 1))
theorem isT_lv {l : Int} {x : Nat} (h : isT l x = true) : 0 ≤ l ∧ l ≤ 2 := by
 unfold isT at h
 rw [Bool.and_eq_true, Bool.and_eq_true, decide_eq_true_eq] at h
 have h1 := qdf h.1
 have h2 := h.2.2
 refine ⟨h1.1, ?_⟩
 unfold rdK at h2
 split at h2
 ·omega
 ·split at h2
  ·rename_i h3
   rw [Bool.and_eq_true, decide_eq_true_eq] at h3
   omega
  ·split at h2 <;> omega
theorem dec_yes {l : Int} {x : Nat} (h : isT l x = true) (hx : x < 18446744073709551616) (w : World) (hF : Go.Proofs.YtfdbdeckohaneaaGreatDoor.Flds w) :
  Calls Tryz.prog 83 #[.int .i64 l, .int .u64 x] w fun e w' => ∃ u r y s a, e = .returned (.tuple #[dv 1 (rdO x) u r y s a, .int .i64 0]) ∧ Below w.heap.size w w' := by
 unfold isT at h
 rw [Bool.and_eq_true, Bool.and_eq_true, decide_eq_true_eq] at h
 refine (qfo l x h.1 hx h.2.1 w hF).mono ?_
 rintro e w' ⟨rfl, hb⟩
 unfold rdV
 rw [h.2.2]
 exact ⟨_, _, _, _, _, rfl, hb⟩
theorem dec_no {l : Int} {x : Nat} (h : isT l x = false) (hx : x < 18446744073709551616) (w : World) (hF : Go.Proofs.YtfdbdeckohaneaaGreatDoor.Flds w) :
  Calls Tryz.prog 83 #[.int .i64 l, .int .u64 x] w fun e w' => ∃ k o u r y s a z, e = .returned (.tuple #[dv k o u r y s a, .int .i64 z]) ∧ (z ≠ 0 ∨ (z = 0 ∧ k ≠ 1)) ∧ Below w.heap.size w w' := by
 cases hl : isLv l
 ·refine (decode_lv l x hl w).mono ?_
  rintro e w' ⟨rfl, hb⟩
  exact ⟨_, _, _, _, _, _, _, _, rfl, Or.inl (by decide), hb⟩
 ·cases hg : qde l x
  ·refine (decode_fail l x hl hx hg w hF).mono ?_
   rintro e w' ⟨rfl, hb⟩
   exact ⟨_, _, _, _, _, _, _, _, rfl, Or.inl (by decide), hb⟩
  ·have hk : rdK l x ≠ 1 := by
    intro hk
    unfold isT at h
    rw [hl, hg, decide_eq_true hk] at h
    cases h
   refine (qfo l x hl hx hg w hF).mono ?_
   rintro e w' ⟨rfl, hb⟩
   exact ⟨_, _, _, _, _, _, _, _, rfl, Or.inr ⟨rfl, hk⟩, hb⟩
def wdE (i0 : Int) (x : Nat) (lv : Int) (V : Nat → Nat) (i : Nat) : En := ⟨i0, qbn x (lv + i), lv + i + 1, rdO (V i)⟩
def wdL (most i0 : Int) (x : Nat) (lv : Int) (V : Nat → Nat) (l : List En) : Nat → List En
 | 0 => l
 | i + 1 => if lowB x = true then qbt (wdL most i0 x lv V l i) most (wdE i0 x lv V i) else wdL most i0 x lv V l i
theorem fillL_len (l : List En) (m : Int) (e : En) : (qbt l m e).length ≤ l.length + 1 := by
 unfold qbt
 split
 ·split
  ·omega
  ·split
   ·have := List.length_eraseIdx_le (l ++ [e]) 0
    simp at this ⊢
   ·simp
 ·omega
theorem wdL_len (most i0 : Int) (x : Nat) (lv : Int) (V : Nat → Nat) (l : List En) : ∀ i, (wdL most i0 x lv V l i).length ≤ l.length + i
 | 0 => Nat.le_refl _
 | i + 1 => by
  have h := wdL_len most i0 x lv V l i
  unfold wdL
  split
  ·have := fillL_len (wdL most i0 x lv V l i) most (wdE i0 x lv V i)
   omega
  ·omega
theorem wdE_ok (i0 : Int) (x : Nat) (lv : Int) (V : Nat → Nat) (i : Nat) : (wdE i0 x lv V i).ok := by
 refine ⟨?_, rdO_lt _⟩
 have := baseV_lt x (lv + i)
 show qbn x (lv + i) < _
 omega
theorem Buf.xpp {X : Nat → Prop} {w wr w1 w2 : World} {t : Nat} {most : Int} {l : List En} (h : Buf w2 (Xp (Xp X w wr) w1 w2) t most l) (h0 : w.heap.size ≤ wr.heap.size) (h1 : wr.heap.size ≤ w1.heap.size) (h2 : w1.heap.size ≤ w2.heap.size) (hX : ∀ i, X i → i < w.heap.size) : Buf w2 (Xp X w w2) t most l := by
 refine h.wide (fun i hi => ?_) (fun i hi => ?_)
 ·rcases hi with (hi | hi) | hi
  ·exact Or.inl hi
  ·exact Or.inr ⟨hi.1, by omega⟩
  ·exact Or.inr ⟨by omega, hi.2⟩
 ·rcases hi with hi | hi
  ·have := hX i hi; omega
  ·exact hi.2
theorem Turn.xpp {X : Nat → Prop} {w wr w1 w2 : World} (ht : Turn X w wr) (hb : Below wr.heap.size wr w1) (h2 : Turn (Xp X w wr) w1 w2) : Turn X w w2 :=
 (qdb ht hb).trans h2 (fun i hi hx => by
  rcases hx with hx | hx
  ·exact hx
  ·omega)
theorem buf_lt {w : World} {X : Nat → Prop} {t : Nat} {most : Int} {l : List En} (h : Buf w X t most l) : ∀ i, X i → i < w.heap.size := by
 obtain ⟨v, h⟩ := h; exact h.lt
theorem qbo {P : Program} {ops : Array Oper} {Q : Exit → Act → World → Prop} {md : Region.Mode} {S : World → Prop} {i : Nat} {oi : Oper} {v : Value} {fuel : Nat} {listed : Array Bool} {a : Act} {w : World} (t : Tmp) (hi : ops[i]? = some oi) (hd : oi.dst = some t)
  (hs : Region.noSelect ops = true) (hf : Region.free md ops listed i = true) (hr : (Region.ready md ops listed).contains i = true)
  (hQ : ∀ c a w, Q (.panic c) (a.put oi.dst v) w → Q (.panic c) a w) (hy : YieldsIf P ops S oi v a) (hS : S w)
  (h : wpAnyH P md ops Q S fuel (listed.setIfInBounds i true) (a.put (some t) v) w) : wpAnyH P md ops Q S (fuel + 1) listed a w :=
 wpAnyH_take hi hs hf hr hQ hy hS (by rw [hd]; exact h)
theorem zP27x01 {Z : Prop} (z : Z := by
 go_ret
 exact ⟨i, by have := HLT.out; omega, HT.out, fun _ => HTI.out, rfl, Buf.xpm (HB.out.later (qab HBE.out (qac _ _))) HXL.out HSZ.out (qab HBE.out (qac _ _)).size, qdb HTU.out (qab HBE.out (qac _ _))⟩) : Z := z
theorem walked_c {w : World} {X : Nat → Prop} {t : Nat} {most : Int} {l : List En} (h : Buf w X t most l) (hl : l.length ≤ 900) (i0 : Int) (x : Nat) (hx : x < 18446744073709551616) (lv : Int) (hv1 : -9223372036854775808 ≤ lv) (hv2 : lv ≤ 9223372036854775807)
  (ad : Option Addr) (n cap : Nat) (A V : Nat → Nat) (hn : n ≤ 50) (hs : StepsAt w ad n A V) (hd : notIn X ad) (hF : ∀ W, Turn X w W → Flds W) :
  Calls Tryz.prog 99 #[.pointer (some ⟨t, 0, none⟩), .int .i64 i0, .int .u64 x, .int .i64 lv, .slice ad n cap] w fun r w' => ∃ k : Nat, k ≤ n ∧ (∀ j : Nat, j < k → isT (lv + j) (V j) = true) ∧ (k < n → isT (lv + k) (V k) = false) ∧ r = .returned (.int .i64 k) ∧ Buf w' (Xp X w w') t most (wdL most i0 x lv V l k) ∧ Turn X w w' := by
 have HS := Hid.mk hs
 have HD := Hid.mk hd
 have HF := Hid.mk hF
 have HX := Hid.mk hx
 have HXL := Hid.mk (buf_lt h)
 have HV := Hid.mk (And.intro hv1 hv2)
 have HB0 : Hid (Buf w (Xp X w w) t most (wdL most i0 x lv V l 0)) := Buf.xp h (Nat.le_refl _) h
 have HLL : Hid (∀ i, i ≤ 50 → (wdL most i0 x lv V l i).length ≤ 950) := fun i hi => by have := wdL_len most i0 x lv V l i; omega
 have HYES : Hid (lowB x = true → ∀ i, wdL most i0 x lv V l (i + 1) = qbt (wdL most i0 x lv V l i) most ⟨i0, qbn x (lv + i), lv + i + 1, rdO (V i)⟩) := fun h1 i => by show (if _ then _ else _) = _; rw [if_pos h1]; rfl
 have HNO : Hid (lowB x = false → ∀ i, wdL most i0 x lv V l (i + 1) = wdL most i0 x lv V l i) := fun h1 i => by show (if _ then _ else _) = _; rw [h1]; rfl
 have HEOK : Hid (∀ i : Nat, (⟨i0, qbn x (lv + i), lv + i + 1, rdO (V i)⟩ : En).ok) := fun i => wdE_ok i0 x lv V i
 have hnI : (n : Int) ≤ 50 := by omega
 clear h hs hd hF hx hv1 hv2 hl
 generalize wdL most i0 x lv V l = WD at *
 go_enter Tryz.func99, Tryz.ntmps99
 go_wp2
 go_loopw [11, 12, 13, 14, 17] (fun _ _ _ _ s17 wr => ∃ i : Nat, i ≤ n ∧ s17 = .int .i64 i ∧ (∀ j : Nat, j < i → isT (lv + j) (V j) = true) ∧ Buf wr (Xp X w wr) t most (WD i) ∧ Turn X w wr) (fun _ _ _ _ s17 _ => n - (RowKit.intOf s17).toNat)
 case atStart => exact ⟨0, by omega, rfl, fun j hj => absurd hj (Nat.not_lt_zero _), HB0.out, Turn.refl _ _⟩
 case round =>
  obtain ⟨i, hi, rfl, hT, hB, hTu⟩ := hrel
  have HT := Hid.mk hT
  have HB := Hid.mk hB
  have HTU := Hid.mk hTu
  clear HB0
  by_cases hlt : i < n
  ·have hlt2 : (i : Int) < n := by omega
   have HLT := Hid.mk hlt
   have hib : (i : Int) < 50 := by omega
   obtain ⟨g, o, rfl, hg, q1, q2⟩ := HS.out.cells i hlt
   have d1 := qam hTu (HD.out _ rfl) q1
   have d2 := qam hTu (HD.out _ rfl) q2
   have hbnd : -9223372036854775808 ≤ lv + (i : Int) ∧ lv + (i : Int) ≤ 9223372036854775807 := by
    have := HV.out
    cases i with
    | zero => simpa using this
    | succ j =>
     have := isT_lv (hT j (by omega))
     omega
   obtain ⟨hb1, hb2⟩ := hbnd
   have HVI := Hid.mk (HS.out.vl i)
   have hFr := HF.out wr hTu
   have hFb := fun ob => hFr.alloc ob
   have HFB := Hid.mk hFb
   have HSZ := Hid.mk hTu.size
   clear q1 q2 hg hT hB hTu hFr hFb hlt hi
   cases hTi : isT (lv + i) (V i)
   ·have hdec := fun W hW => dec_no hTi HVI.out W hW
    have HDE := Hid.mk hdec
    have HTI := Hid.mk hTi
    clear hdec hTi
    go_wp2_with fail
    refine (HDE.out _ (HFB.out _).d).mono ?_
    rintro e w1 ⟨k, o, u, r, y, s, a, z, rfl, hz, hb⟩
    have HBE := Hid.mk (qab (qac _ _) hb)
    clear hb HDE HFB
    rcases hz with hz | ⟨rfl, hz⟩
    ·go_wp2
     exact zP27x01
    ·go_wp2
     exact zP27x01
   ·have hdec := fun W hW => dec_yes hTi HVI.out W hW
    have HDE := Hid.mk hdec
    have hl2 := isT_lv hTi
    have HTI : Hid (∀ j : Nat, j < i + 1 → isT (lv + j) (V j) = true) := fun j hj => by
     by_cases hji : j = i
     ·subst hji; exact hTi
     ·exact HT.out j (by omega)
    obtain ⟨hl0, hl2⟩ := hl2
    clear hdec hTi hb1 hb2
    go_wp2_with fail
    refine (HDE.out _ (HFB.out _).d).mono ?_
    rintro e w1 ⟨u, r, y, s, a, rfl, hb⟩
    have HBE := Hid.mk (qab (qac _ _) hb)
    have hsz1 := HBE.out.size
    clear hb HDE HFB
    cases hlow : lowB x
    ·have HN2 := Hid.mk (HNO.out hlow i)
     go_wp2_with (first
      | (go_at_call 122; refine (low_any x _).mono ?_; rintro e w' ⟨rfl, rfl⟩; rw [hlow]))
     go_roundw
     case rel =>
      refine ⟨i + 1, by have := HLT.out; omega, by go_num, HTI.out, ?_, qdb HTU.out (qab HBE.out (qac _ _))⟩
      rw [HN2.out]
      exact Buf.xpm (HB.out.later (qab HBE.out (qac _ _))) HXL.out HSZ.out (qab HBE.out (qac _ _)).size
     case measure => have := HLT.out; simp [RowKit.intOf]; omega
    ·have HY2 := Hid.mk (HYES.out hlow i)
     have HOKi := Hid.mk (HEOK.out i)
     have hBa := fun W => qfd x (lv + i) HX.out W
     have HLLi := Hid.mk (HLL.out i (by omega))
     generalize qbn x (lv + i) = bv at *
     generalize rdO (V i) = ov at *
     go_wp2_with fail
     refine (low_any x _).mono ?_
     rintro e w' ⟨rfl, rfl⟩
     rw [hlow]
     have hK := heap_alloc_new w1 (.cells #[.int .i64 1, .int .u64 ov, .bool u, .bool r, .bool y, .bool s, .int .i64 a] 89)
     have HK := Hid.mk hK
     have HBW := Hid.mk (qab HBE.out (qac w1 (.cells #[.int .i64 1, .int .u64 ov, .bool u, .bool r, .bool y, .bool s, .int .i64 a] 89)))
     have HNX : Hid (¬ Xp X w wr w1.heap.size) := fun hx => by
      rcases hx with hx | hx
      ·have := HXL.out _ hx; have := HSZ.out; omega
      ·omega
     have hw1 : IntKind.i64.wrap (lv + (i : Int)) = lv + (i : Int) := by rw [IntKind.wrap_i64]; omega
     have hw2 : IntKind.i64.wrap (lv + (i : Int) + 1) = lv + (i : Int) + 1 := by rw [IntKind.wrap_i64]; omega
     go_upto_region 8 with fail
     generalize w1.alloc (.cells #[.int .i64 1, .int .u64 ov, .bool u, .bool r, .bool y, .bool s, .int .i64 a] 89) = wd at *
     generalize w1.heap.size = D at *
     have k1 : wd.cell? ⟨D, 1, none⟩ = some (.int .u64 ov) := (cell_of_row _ _ _ _ _ _ hK).trans rfl
     clear hK
     have HBFd := Hid.mk (HB.out.later (qab HBW.out (Below.refl _ _).drew))
     have HFd := Hid.mk (HF.out _ (qdb HTU.out (qab HBW.out (Below.refl _ _).drew)))
     refine wp_region_noPanic ?_
     refine wp_region_held_drew (S := (fun w' => w'.cell? ⟨D, 1, none⟩ = some (.int .u64 ov))) (by kernel_rfl) ?_ (fun hHeld => ?_)
     ·exact cell_later (Below.refl _ _).drew k1
     refine tk 0 41 (h := ?_)
     refine tk 1 42 (h := ?_)
     refine tk 2 43 (h := ?_)
     refine tk 3 44 (h := ?_)
     refine tk 4 45 (h := ?_)
     refine tk 5 46 (h := ?_)
     refine tk 7 48 (h := ?_)
     refine tk 8 49 (h := ?_)
     refine tk 9 50 (h := ?_)
     refine tk 10 51 (h := ?_)
     refine tk 11 52 (h := ?_)
     refine tk 12 53 (h := ?_)
     refine rd1 6 (h := fun K hK => ?_)
     go_simp
     refine (hBa _).mono ?_
     rintro e v1 ⟨rfl, rfl⟩
     go_wp2_with fail
     refine hK.out _ _ (cell_later (Below.refl _ _).drew k1) (fun hHeld1 => ?_)
     clear hK hHeld
     try simp only [Act.put, sq]
     refine tk 13 54 (h := ?_)
     refine rd1 14 (h := fun K hK => ?_)
     go_simp
     refine (fill_c ⟨i0, bv, lv + i + 1, ov⟩ HOKi.out HBFd.out (by have := HLLi.out; omega) HFd.out).mono ?_
     rintro e v2 ⟨rfl, hB2, hT2⟩
     go_wp2_with fail
     refine hK.out _ _ (qam hT2 HNX.out (cell_later (Below.refl _ _).drew k1)) (fun hHeld2 => ?_)
     clear hK hHeld1 k1
     try simp only [Act.put, sq]
     refine wpAnyH_done (by kernel_rfl) ?_ _
     refine NoPanic.normal ?_
     clear hHeld2
     have HB2 := Hid.mk hB2
     have HT2 := Hid.mk hT2
     clear hB2 hT2
     go_wp2
     go_roundw
     case rel =>
      refine ⟨i + 1, by have := HLT.out; omega, by go_num, HTI.out, ?_, Turn.xpp HTU.out (qab HBW.out (Below.refl _ _).drew) HT2.out⟩
      rw [HY2.out]
      exact Buf.xpp HB2.out HSZ.out (qab HBW.out (Below.refl _ _).drew).size HT2.out.size HXL.out
     case measure => have := HLT.out; simp [RowKit.intOf]; omega
  ·have hlt2 : ¬ (i : Int) < n := by omega
   obtain rfl : i = n := by omega
   clear hlt hi hB hTu hT
   go_wp2
   go_ret
   exact ⟨i, Nat.le_refl _, HT.out, fun h => absurd h (Nat.lt_irrefl _), rfl, HB.out, HTU.out⟩
end Go.Proofs.YtfdbdeckohaneaaGreatDoor.TR
