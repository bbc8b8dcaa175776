/- siftDown and heapSort at words. -/
import Derived.Test.YtiedlkhbbnjkbaaSortRow
namespace Go.Proofs.Ytiedlkhbbnjkbaa
open Go.RowKit
open Go.Sort (swp ltInt PermIn SortedIn siftDown heapBuild heapPop heapSort)

theorem To.drewN {g : Nat} {w w1 : World} {d1 : Array Int} (h : To g w d1 w1) (k : Nat) : To g w d1 (w1.drewN k) := ⟨h.1, ⟨h.2.1.os, h.2.1.tape, h.2.1.output, h.2.1.size, h.2.1.block⟩, h.2.2⟩

section
variable {hi F root : Nat} {d : Array Int}
theorem sift_end (h : hi ≤ 2 * root + 1) : siftDown ltInt hi F root d = d := by
  rw [siftDown, dif_pos h]
/-- The left child is the greater one. -/
theorem siftL_stop (h : ¬ hi ≤ 2 * root + 1) (hl : ¬ (2 * root + 1 + 1 < hi ∧ ltInt d[F + (2 * root + 1)]! d[F + (2 * root + 1) + 1]! = true)) (h2 : ltInt d[F + root]! d[F + (2 * root + 1)]! = false) : siftDown ltInt hi F root d = d := by
  rw [siftDown, dif_neg (show ¬ 2 * root + 1 ≥ hi from h), if_neg (by simpa using hl), if_pos (by rw [h2]; rfl)]
theorem siftL_go (h : ¬ hi ≤ 2 * root + 1) (hl : ¬ (2 * root + 1 + 1 < hi ∧ ltInt d[F + (2 * root + 1)]! d[F + (2 * root + 1) + 1]! = true)) (h2 : ltInt d[F + root]! d[F + (2 * root + 1)]! = true) :
    siftDown ltInt hi F root d = siftDown ltInt hi F (2 * root + 1) (swp d (F + root) (F + (2 * root + 1))) := by
  rw [siftDown, dif_neg (show ¬ 2 * root + 1 ≥ hi from h), if_neg (by simpa using hl), if_neg (by rw [h2]; decide)]
theorem siftR_stop (hl : 2 * root + 1 + 1 < hi) (hl2 : ltInt d[F + (2 * root + 1)]! d[F + (2 * root + 1) + 1]! = true) (h2 : ltInt d[F + root]! d[F + (2 * root + 2)]! = false) : siftDown ltInt hi F root d = d := by
  rw [siftDown, dif_neg (by omega), if_pos (by simp [hl, hl2]), if_pos (by rw [h2]; rfl)]
theorem siftR_go (hl : 2 * root + 1 + 1 < hi) (hl2 : ltInt d[F + (2 * root + 1)]! d[F + (2 * root + 1) + 1]! = true) (h2 : ltInt d[F + root]! d[F + (2 * root + 2)]! = true) :
    siftDown ltInt hi F root d = siftDown ltInt hi F (2 * root + 2) (swp d (F + root) (F + (2 * root + 2))) := by
  rw [siftDown, dif_neg (by omega), if_pos (by simp [hl, hl2]), if_neg (by rw [h2]; decide), dif_pos (by omega)]
end

set_option maxHeartbeats 4000000 in
theorem sift_c {w : World} {g : Nat} {d : Array Int} (cap lo hi F : Nat) (h : Rw w g d) (hg : g < w.heap.size) (hF : F + hi ≤ d.size) (hs : d.size < 4611686018427387904) (hlo : lo ≤ d.size) :
    Calls Try.prog 56 #[.slice (some ⟨g, 0, none⟩) d.size cap, .int .i64 lo, .int .i64 hi, .int .i64 F] w fun e w' => e = .returned (.tuple #[]) ∧ To g w (siftDown ltInt hi F lo d) w' := by
  have HR : Hid (To g w d w) := To.refl h hg
  clear h
  go_enter Try.func56, Try.ntmps56
  go_wp2
  go_loopw [8] (fun i wr => ∃ (root : Nat) (e : Array Int), i = .int .i64 root ∧ root ≤ d.size ∧ e.size = d.size ∧ siftDown ltInt hi F root e = siftDown ltInt hi F lo d ∧ To g w e wr) (fun i _ => ((hi : Int) + 1 - intOf i).toNat)
  case atStart => exact ⟨lo, d, rfl, hlo, rfl, rfl, HR.out⟩
  case round =>
    clear HR
    obtain ⟨root, e, rfl, hrt, hez, hI, hT⟩ := hrel
    have HI := Hid.mk hI
    have HT := Hid.mk hT
    clear hI hT
    obtain ⟨c, hc⟩ : ∃ c, c = 2 * root + 1 := ⟨_, rfl⟩
    have hci : 2 * (root : Int) + 1 = (c : Int) := by omega
    by_cases he : hi ≤ c
    · have d0 : decide ((hi : Int) ≤ c) = true := decide_eq_true (by omega)
      have HC := Hid.mk hc
      clear hc
      go_wp2
      go_end0
      exact ⟨rfl, by rw [← HI.out, sift_end (by rw [← HC.out]; exact he)]; exact HT.out⟩
    · have d0 : decide ((hi : Int) ≤ c) = false := decide_eq_false (by omega)
      obtain ⟨fr, hfr⟩ : ∃ fr, fr = F + root := ⟨_, rfl⟩
      obtain ⟨fc, hfc⟩ : ∃ fc, fc = F + c := ⟨_, rfl⟩
      have ifr : (F : Int) + root = (fr : Int) := by omega
      have ifc : (F : Int) + c = (fc : Int) := by omega
      have bfr : fr < e.size := by omega
      have bfc : fc < e.size := by omega
      have bfrd : (fr : Int) < d.size := by omega
      have bfcd : (fc : Int) < d.size := by omega
      have hroot : root < hi := by omega
      by_cases hc1 : c + 1 < hi
      · have d1 : decide ((c : Int) + 1 < hi) = true := decide_eq_true (by omega)
        have bf1 : (fc : Int) + 1 < d.size := by omega
        have bfn : fc + 1 < e.size := by omega
        have HC : Hid (c = 2 * root + 1 ∧ fr = F + root ∧ fc = F + c) := ⟨hc, hfr, hfc⟩
        obtain ⟨g1, g2, _, _, _⟩ := HT.out.1.facts (i := fc) (j := fc + 1) bfc bfn
        have hls := less_c e[fc]! e[fc + 1]!
        clear hc hfr hfc
        generalize hx : e[fc]! = x0 at *
        generalize hy : e[fc + 1]! = y0 at *
        have HX0 := Hid.mk hx
        have HY0 := Hid.mk hy
        clear hx hy
        go_wp2
        go_quiet ((refine Calls.quiet_of_same ((hls _).mono (fun e w1 hh => ⟨hh.1, hh.2.symm⟩))))
        have HTq : Hid (To g w e (wr.drewN nq)) := HT.out.drewN nq
        clear g1 g2 hls
        generalize wr.drewN nq = wq at *
        cases hcc : ltInt x0 y0 with
        | true =>
          have HL : Hid (ltInt e[F + (2 * root + 1)]! e[F + (2 * root + 1) + 1]! = true) := by
            show _ = _
            obtain ⟨q1, q2, q3⟩ := HC.out
            rw [← q1, ← q3, HX0.out, HY0.out]; exact hcc
          obtain ⟨c1, hc1e⟩ : ∃ c1, c1 = c + 1 := ⟨_, rfl⟩
          obtain ⟨f1', hf1'⟩ : ∃ f1', f1' = fc + 1 := ⟨_, rfl⟩
          have ic1 : (c : Int) + 1 = (c1 : Int) := by omega
          have if1 : (F : Int) + c1 = (f1' : Int) := by have := HC.out; omega
          have bf1' : f1' < e.size := by omega
          have bf1d : (f1' : Int) < d.size := by omega
          have HC1 : Hid (c1 = 2 * root + 2 ∧ f1' = F + (2 * root + 2) ∧ c1 ≤ d.size ∧ root < c1 ∧ c1 < hi) := by have := HC.out; exact ⟨by omega, by omega, by omega, by omega, by omega⟩
          have HR1 : Hid (ltInt e[fr]! e[f1']! = false → siftDown ltInt hi F root e = e) := fun hl => by
            obtain ⟨q1, q2, q3⟩ := HC.out
            obtain ⟨r1, r2, _⟩ := HC1.out
            rw [q2, r2] at hl
            exact siftR_stop (by omega) HL.out hl
          have HR2 : Hid (ltInt e[fr]! e[f1']! = true → siftDown ltInt hi F root e = siftDown ltInt hi F c1 (swp e fr f1')) := fun hl => by
            obtain ⟨q1, q2, q3⟩ := HC.out
            obtain ⟨r1, r2, _⟩ := HC1.out
            rw [q2, r2] at hl
            rw [q2, r2, r1]
            exact siftR_go (by omega) HL.out hl
          clear hc1e hf1'
          have hrc := HC1.out.2.2
          have hls := less_c e[fr]! e[f1']!
          obtain ⟨f1, f2, f3, f4, z, f5⟩ := HTq.out.1.facts (i := fr) (j := f1') (by omega) (by omega)
          have HStop : Hid (ltInt e[fr]! e[f1']! = false → siftDown ltInt hi F root e = e) := HR1.out
          have HGo : Hid (ltInt e[fr]! e[f1']! = true → siftDown ltInt hi F root e = siftDown ltInt hi F c1 (swp e fr f1')) := HR2.out
          generalize hx : e[fr]! = x at *
          generalize hy : e[f1']! = y at *
          have HX := Hid.mk hx
          have HY := Hid.mk hy
          clear hx hy
          go_wp2
          go_quiet ((refine Calls.quiet_of_same ((hls _).mono (fun e w1 hh => ⟨hh.1, hh.2.symm⟩))))
          have HTv : Hid (To g w e (wq.drewN nq)) := HTq.out.drewN nq
          clear f1 f2 f3 f4 f5 hls
          generalize wq.drewN nq = wv at *
          cases hc2 : ltInt x y with
          | false =>
            rw [hc2] at HStop HGo
            go_wp2
            refine bodyPost_ret (results_none rfl _ _ _) rfl ?_
            exact ⟨rfl, by rw [← HI.out, HStop.out (by trivial)]; exact HTv.out⟩
          | true =>
            rw [hc2] at HStop HGo
            obtain ⟨f1, f2, f3, f4, z, f5⟩ := HTv.out.1.facts (i := fr) (j := f1') (by omega) (by omega)
            rw [HX.out] at f1
            rw [HY.out] at f2 f5
            go_wp2
            go_region
            have HT2 : Hid (To g w (swp e fr f1') (((wv.setCell ⟨g, fr, none⟩ (.int .u64 y)).setCell ⟨g, f1', none⟩ (.int .u64 x)).drew)) := by
              have := (HTv.out.trans (HTv.out.1.swap HTv.out.lt (i := fr) (j := f1') (by omega) (by omega))).drew
              rw [HX.out, HY.out] at this
              exact this
            clear f1 f2 f3 f4 f5
            go_wp2
            refine ⟨⟨c1, swp e fr f1', by first | rfl | go_num, by omega, by rw [Sort.size_swp]; exact hez, ?_, HT2.out⟩, by simp [intOf]; omega⟩
            rw [← HI.out, HGo.out (by trivial)]
        | false =>
          have hrc : c ≤ d.size ∧ root < c ∧ c < hi := by have := HC.out; exact ⟨by omega, by omega, by omega⟩
          have HR1 : Hid (ltInt e[fr]! e[fc]! = false → siftDown ltInt hi F root e = e) := fun hl => by
            obtain ⟨q1, q2, q3⟩ := HC.out
            rw [q2, q3, q1] at hl
            exact siftL_stop (by omega) (fun hh => by rw [← q1, ← q3, HX0.out, HY0.out, hcc] at hh; cases hh.2) hl
          have HR2 : Hid (ltInt e[fr]! e[fc]! = true → siftDown ltInt hi F root e = siftDown ltInt hi F c (swp e fr fc)) := fun hl => by
            obtain ⟨q1, q2, q3⟩ := HC.out
            rw [q2, q3, q1] at hl
            rw [q2, q3, q1]
            exact siftL_go (by omega) (fun hh => by rw [← q1, ← q3, HX0.out, HY0.out, hcc] at hh; cases hh.2) hl
          have hls := less_c e[fr]! e[fc]!
          obtain ⟨f1, f2, f3, f4, z, f5⟩ := HTq.out.1.facts (i := fr) (j := fc) (by omega) (by omega)
          have HStop : Hid (ltInt e[fr]! e[fc]! = false → siftDown ltInt hi F root e = e) := HR1.out
          have HGo : Hid (ltInt e[fr]! e[fc]! = true → siftDown ltInt hi F root e = siftDown ltInt hi F c (swp e fr fc)) := HR2.out
          generalize hx : e[fr]! = x at *
          generalize hy : e[fc]! = y at *
          have HX := Hid.mk hx
          have HY := Hid.mk hy
          clear hx hy
          go_wp2
          go_quiet ((refine Calls.quiet_of_same ((hls _).mono (fun e w1 hh => ⟨hh.1, hh.2.symm⟩))))
          have HTv : Hid (To g w e (wq.drewN nq)) := HTq.out.drewN nq
          clear f1 f2 f3 f4 f5 hls
          generalize wq.drewN nq = wv at *
          cases hc2 : ltInt x y with
          | false =>
            rw [hc2] at HStop HGo
            go_wp2
            refine bodyPost_ret (results_none rfl _ _ _) rfl ?_
            exact ⟨rfl, by rw [← HI.out, HStop.out (by trivial)]; exact HTv.out⟩
          | true =>
            rw [hc2] at HStop HGo
            obtain ⟨f1, f2, f3, f4, z, f5⟩ := HTv.out.1.facts (i := fr) (j := fc) (by omega) (by omega)
            rw [HX.out] at f1
            rw [HY.out] at f2 f5
            go_wp2
            go_region
            have HT2 : Hid (To g w (swp e fr fc) (((wv.setCell ⟨g, fr, none⟩ (.int .u64 y)).setCell ⟨g, fc, none⟩ (.int .u64 x)).drew)) := by
              have := (HTv.out.trans (HTv.out.1.swap HTv.out.lt (i := fr) (j := fc) (by omega) (by omega))).drew
              rw [HX.out, HY.out] at this
              exact this
            clear f1 f2 f3 f4 f5
            go_wp2
            refine ⟨⟨c, swp e fr fc, by first | rfl | go_num, by omega, by rw [Sort.size_swp]; exact hez, ?_, HT2.out⟩, by simp [intOf]; omega⟩
            rw [← HI.out, HGo.out (by trivial)]
      · have d1 : decide ((c : Int) + 1 < hi) = false := decide_eq_false (by omega)
        have HC : Hid (c = 2 * root + 1 ∧ fr = F + root ∧ fc = F + c) := ⟨hc, hfr, hfc⟩
        have hrc : c ≤ d.size ∧ root < c ∧ c < hi := by exact ⟨by omega, by omega, by omega⟩
        clear hc hfr hfc
        go_wp2
        go_quiet (fail)
        have HTq : Hid (To g w e (wr.drewN nq)) := HT.out.drewN nq
        generalize wr.drewN nq = wq at *
        have HR1 : Hid (ltInt e[fr]! e[fc]! = false → siftDown ltInt hi F root e = e) := fun hl => by
          obtain ⟨q1, q2, q3⟩ := HC.out
          rw [q2, q3, q1] at hl
          exact siftL_stop (by omega) (fun hh => by omega) hl
        have HR2 : Hid (ltInt e[fr]! e[fc]! = true → siftDown ltInt hi F root e = siftDown ltInt hi F c (swp e fr fc)) := fun hl => by
          obtain ⟨q1, q2, q3⟩ := HC.out
          rw [q2, q3, q1] at hl
          rw [q2, q3, q1]
          exact siftL_go (by omega) (fun hh => by omega) hl
        have hls := less_c e[fr]! e[fc]!
        obtain ⟨f1, f2, f3, f4, z, f5⟩ := HTq.out.1.facts (i := fr) (j := fc) (by omega) (by omega)
        have HStop : Hid (ltInt e[fr]! e[fc]! = false → siftDown ltInt hi F root e = e) := HR1.out
        have HGo : Hid (ltInt e[fr]! e[fc]! = true → siftDown ltInt hi F root e = siftDown ltInt hi F c (swp e fr fc)) := HR2.out
        generalize hx : e[fr]! = x at *
        generalize hy : e[fc]! = y at *
        have HX := Hid.mk hx
        have HY := Hid.mk hy
        clear hx hy
        go_wp2
        go_quiet ((refine Calls.quiet_of_same ((hls _).mono (fun e w1 hh => ⟨hh.1, hh.2.symm⟩))))
        have HTv : Hid (To g w e (wq.drewN nq)) := HTq.out.drewN nq
        clear f1 f2 f3 f4 f5 hls
        generalize wq.drewN nq = wv at *
        cases hc2 : ltInt x y with
        | false =>
          rw [hc2] at HStop HGo
          go_wp2
          refine bodyPost_ret (results_none rfl _ _ _) rfl ?_
          exact ⟨rfl, by rw [← HI.out, HStop.out (by trivial)]; exact HTv.out⟩
        | true =>
          rw [hc2] at HStop HGo
          obtain ⟨f1, f2, f3, f4, z, f5⟩ := HTv.out.1.facts (i := fr) (j := fc) (by omega) (by omega)
          rw [HX.out] at f1
          rw [HY.out] at f2 f5
          go_wp2
          go_region
          have HT2 : Hid (To g w (swp e fr fc) (((wv.setCell ⟨g, fr, none⟩ (.int .u64 y)).setCell ⟨g, fc, none⟩ (.int .u64 x)).drew)) := by
            have := (HTv.out.trans (HTv.out.1.swap HTv.out.lt (i := fr) (j := fc) (by omega) (by omega))).drew
            rw [HX.out, HY.out] at this
            exact this
          clear f1 f2 f3 f4 f5
          go_wp2
          refine ⟨⟨c, swp e fr fc, by first | rfl | go_num, by omega, by rw [Sort.size_swp]; exact hez, ?_, HT2.out⟩, by simp [intOf]; omega⟩
          rw [← HI.out, HGo.out (by trivial)]

theorem siftDown_size (hi F : Nat) : ∀ (m root : Nat) (d : Array Int), hi - root ≤ m → (siftDown ltInt hi F root d).size = d.size
  | m, root, d, hm => by
    rw [siftDown]
    split
    · rfl
    · split
      · split
        · rfl
        · split
          · cases m with
            | zero => omega
            | succ m => rw [siftDown_size hi F m _ _ (by omega), Sort.size_swp]
          · rfl
      · split
        · rfl
        · cases m with
          | zero => omega
          | succ m => rw [siftDown_size hi F m _ _ (by omega), Sort.size_swp]

set_option maxHeartbeats 4000000 in
theorem heap_c {w : World} {g : Nat} {d : Array Int} (cap a b : Nat) (h : Rw w g d) (hg : g < w.heap.size) (hab : a ≤ b) (hb : b ≤ d.size) (hs : d.size < 4611686018427387904) :
    Calls Try.prog 46 #[.slice (some ⟨g, 0, none⟩) d.size cap, .int .i64 a, .int .i64 b] w fun e w' => e = .returned (.tuple #[]) ∧ To g w (heapSort ltInt d a b) w' := by
  have HR : Hid (To g w d w) := To.refl h hg
  clear h
  obtain ⟨H, hH⟩ : ∃ H, H = b - a := ⟨_, rfl⟩
  have iH : (b : Int) - a = (H : Int) := by omega
  obtain ⟨k0, hk0⟩ : ∃ k0, k0 = (H - 1) / 2 + 1 := ⟨_, rfl⟩
  have ik0 : ((H : Int) - 1).tdiv 2 = (k0 : Int) - 1 := by
    by_cases h0 : H = 0
    · subst h0; rw [hk0]; rfl
    · rw [Int.tdiv_eq_ediv_of_nonneg (by omega)]; omega
  have hK : k0 ≤ H + 1 := by omega
  have HS : Hid (heapSort ltInt d a b = heapPop ltInt a H (heapBuild ltInt H a k0 d)) := by
    show _ = _
    rw [hk0, hH]; rfl
  have haH : a + H ≤ d.size := by omega
  clear hH hk0
  go_enter Try.func46, Try.ntmps46
  go_wp2
  go_loopw [9] (fun i wr => ∃ (q : Int) (e : Array Int), i = .int .i64 q ∧ -1 ≤ q ∧ q < k0 ∧ e.size = d.size ∧ heapBuild ltInt H a (q + 1).toNat e = heapBuild ltInt H a k0 d ∧ To g w e wr) (fun i _ => (intOf i + 1).toNat)
  case atStart => exact ⟨(k0 : Int) - 1, d, by first | rfl | (rw [ik0]; done) | go_num, by omega, by omega, rfl, by rw [show ((k0 : Int) - 1 + 1).toNat = k0 by omega], HR.out⟩
  case round =>
    clear HR
    obtain ⟨q, e, rfl, hq1, hk, hez, hI, hT⟩ := hrel
    have HT := Hid.mk hT
    clear hT
    by_cases hq0 : 0 ≤ q
    · obtain ⟨k, rfl⟩ := Int.eq_ofNat_of_zero_le hq0
      have HI : Hid (heapBuild ltInt H a k (siftDown ltInt H a k e) = heapBuild ltInt H a k0 d) := by
        show _ = _
        rw [← hI, show ((k : Int) + 1).toNat = k + 1 by omega]; rfl
      clear hI
      have d0 : decide ((0 : Int) ≤ (k : Int)) = true := decide_eq_true (by omega)
      have hsf := sift_c cap k H a HT.out.1 HT.out.lt (by omega) (by omega) (by omega)
      rw [hez] at hsf
      go_wp2_with fail
      refine hsf.mono ?_
      rintro e2 w2 ⟨rfl, hT2⟩
      have HT2 := Hid.mk (HT.out.trans hT2)
      clear hsf hT2
      go_wp2
      refine ⟨⟨(k : Int) - 1, _, by first | rfl | go_num, by omega, by omega, by rw [siftDown_size _ _ _ _ _ (Nat.le_refl _)]; exact hez, by rw [show ((k : Int) - 1 + 1).toNat = k by omega]; exact HI.out, HT2.out⟩, by simp [intOf]⟩
    · obtain rfl : q = -1 := by omega
      have HB : Hid (e = heapBuild ltInt H a k0 d) := hI
      clear hI hq0 hq1
      go_wp2
      go_loopw [10] (fun i wr => ∃ (q : Int) (e2 : Array Int), i = .int .i64 q ∧ -1 ≤ q ∧ q < H ∧ e2.size = d.size ∧ heapPop ltInt a (q + 1).toNat e2 = heapPop ltInt a H e ∧ To g w e2 wr) (fun i _ => (intOf i + 1).toNat)
      case atStart => exact ⟨(H : Int) - 1, e, by first | rfl | go_num, by omega, by omega, hez, by rw [show ((H : Int) - 1 + 1).toNat = H by omega], HT.out⟩
      case round =>
        clear HT
        obtain ⟨q, e2, rfl, hq1, hk2, hez2, hI, hT⟩ := hrel
        have HT := Hid.mk hT
        clear hT
        by_cases hq0 : 0 ≤ q
        · obtain ⟨k, rfl⟩ := Int.eq_ofNat_of_zero_le hq0
          have HI : Hid (heapPop ltInt a k (siftDown ltInt k a 0 (swp e2 a (a + k))) = heapPop ltInt a H e) := by
            show _ = _
            rw [← hI, show ((k : Int) + 1).toNat = k + 1 by omega]; rfl
          clear hI
          have d0 : decide ((0 : Int) ≤ (k : Int)) = true := decide_eq_true (by omega)
          obtain ⟨ak, hak⟩ : ∃ ak, ak = a + k := ⟨_, rfl⟩
          have iak : (a : Int) + k = (ak : Int) := by omega
          have bak : ak < e2.size := by omega
          have ba : a < e2.size := by omega
          have bakd : (ak : Int) < d.size := by omega
          have bad : (a : Int) < d.size := by omega
          obtain ⟨f1, f2, f3, f4, z, f5⟩ := HT.out.1.facts (i := a) (j := ak) ba bak
          obtain ⟨z6, f6⟩ := HT.out.1.fact6 a bak (.int .u64 e2[ak]!)
          generalize hx : e2[a]! = x at *
          generalize hy : e2[ak]! = y at *
          have HX := Hid.mk hx
          have HY := Hid.mk hy
          have HA := Hid.mk hak
          clear hx hy hak
          go_wp2
          go_region
          have HT2 : Hid (To g w (swp e2 a ak) (((wr.setCell ⟨g, a, none⟩ (.int .u64 y)).setCell ⟨g, ak, none⟩ (.int .u64 x)).drew)) := by
            have := (HT.out.trans (HT.out.1.swap HT.out.lt (i := a) (j := ak) ba bak)).drew
            rw [HX.out, HY.out] at this
            exact this
          clear f1 f2 f3 f4 f5 f6
          generalize ((wr.setCell ⟨g, a, none⟩ (.int .u64 y)).setCell ⟨g, ak, none⟩ (.int .u64 x)).drew = wq at *
          have hsf := sift_c cap 0 k a HT2.out.1 HT2.out.lt (by rw [Sort.size_swp]; omega) (by rw [Sort.size_swp]; omega) (by omega)
          rw [Sort.size_swp, hez2] at hsf
          go_wp2_with fail
          refine hsf.mono ?_
          rintro e3 w3 ⟨rfl, hT3⟩
          have HT3 := Hid.mk (HT2.out.trans hT3)
          clear hsf hT3
          go_wp2
          refine ⟨⟨(k : Int) - 1, _, by first | rfl | go_num, by omega, by omega, by rw [siftDown_size _ _ _ _ _ (Nat.le_refl _), Sort.size_swp]; exact hez2, ?_, HT3.out⟩, by simp [intOf]⟩
          rw [show ((k : Int) - 1 + 1).toNat = k by omega, HA.out]
          exact HI.out
        · obtain rfl : q = -1 := by omega
          have HB2 : Hid (e2 = heapPop ltInt a H e) := hI
          clear hI hq0 hq1
          go_wp2
          go_end0
          exact ⟨rfl, by rw [HS.out, ← HB.out, ← HB2.out]; exact HT.out⟩
end Go.Proofs.Ytiedlkhbbnjkbaa
