/- slices.Sort at words; slices.Sorted; the pages of a memory. -/
import Derived.Test.YtiedlkhbbnjkbaaSortPdq
import Derived.Test.YtiedlkhbbnjkbaaSeqColl
namespace Go.Proofs.Ytiedlkhbbnjkbaa
open Go.RowKit Go.Maps
open Go.Sort (swp ltInt PermIn SortedIn)

theorem ins_nil (w : World) : Calls Try.prog 45 #[.slice none 0 0, .int .i64 0, .int .i64 0] w fun e w' => e = .returned (.tuple #[]) ∧ w = w' := by
  go_enter Try.func45, Try.ntmps45
  go_wp2
  go_loopw [6] (fun i wr => i = .int .i64 1 ∧ w = wr) (fun _ _ => 0)
  case atStart => exact ⟨by first | rfl | go_num, rfl⟩
  case round =>
    obtain ⟨rfl, rfl⟩ := hrel
    go_wp2
    go_end0
    exact ⟨rfl, rfl⟩

theorem pdq_nil (w : World) : Calls Try.prog 42 #[.slice none 0 0, .int .i64 0, .int .i64 0, .int .i64 0] w fun e w' => e = .returned (.tuple #[]) ∧ w = w' := by
  go_enter Try.func42, Try.ntmps42
  go_wp2
  go_loopw [1, 2, 3, 8, 9] (fun s1 s2 s3 s8 s9 wr => s1 = .int .i64 0 ∧ s2 = .int .i64 0 ∧ s3 = .int .i64 0 ∧ s8 = .bool true ∧ s9 = .bool true ∧ w = wr) (fun _ _ _ _ _ _ => 0)
  case atStart => exact ⟨rfl, rfl, rfl, rfl, rfl, rfl⟩
  case round =>
    obtain ⟨rfl, rfl, rfl, rfl, rfl, rfl⟩ := hrel
    go_wp2_with fail
    refine (ins_nil w).mono ?_
    rintro e w1 ⟨rfl, rfl⟩
    go_wp2
    (try simp only [Exit.inBlock, Exit.then]); refine bodyPost_ret (results_none rfl _ _ _) rfl ?_
    exact ⟨rfl, rfl⟩

theorem sort_nil (w : World) : Calls Try.prog 39 #[.slice none 0 0] w fun e w' => e = .returned (.tuple #[]) ∧ w = w' := by
  have hl := Try.bits_Len 0 w (by omega) (by omega)
  rw [show (Lib.bitLen (0 : Int).toNat : Int) = 0 from rfl] at hl
  go_enter Try.func39, Try.ntmps39
  go_wp2_with fail
  refine hl.mono ?_
  rintro e w1 ⟨rfl, hw⟩
  subst hw
  go_wp2_with fail
  refine (pdq_nil w1).mono ?_
  rintro e w2 ⟨rfl, rfl⟩
  go_wp2
  go_end0
  exact ⟨rfl, rfl⟩

theorem sort_c {w : World} {g : Nat} {d : Array Int} (cap : Nat) (h : Rw w g d) (hg : g < w.heap.size) (hs : d.size < 4611686018427387904) :
    Calls Try.prog 39 #[.slice (some ⟨g, 0, none⟩) d.size cap] w fun r w' => PdqPost g 0 d.size w d r w' := by
  have hl := Try.bits_Len d.size w (by omega) (by omega)
  rw [Int.toNat_natCast] at hl
  have hb : Lib.bitLen d.size ≤ 62 := by
    by_cases c : 1 ≤ d.size
    · exact bitLen_le c hs
    · rw [show d.size = 0 by omega]; decide
  generalize Lib.bitLen d.size = k at *
  have hp := pdq_c (d.size + 1) w g d cap 0 d.size k (by omega) h hg (by omega) (by omega) hs (by omega) (Or.inl rfl)
  clear h
  generalize d.size = n at *
  go_enter Try.func39, Try.ntmps39
  go_wp2_with fail
  refine hl.mono ?_
  rintro e w1 ⟨rfl, hw⟩
  subst hw
  go_wp2_with fail
  refine hp.mono ?_
  rintro e w2 ⟨rfl, hw2⟩
  have HW := Hid.mk hw2
  clear hw2 hl hp
  go_wp2
  go_end0
  exact ⟨rfl, HW.out⟩

/-! ### slices of words -/
def wA (ts : List Nat) : Array Int := (ts.map fun x : Nat => (x : Int)).toArray
theorem wA_size (ts : List Nat) : (wA ts).size = ts.length := by simp [wA]
theorem wA_get (ts : List Nat) {j : Nat} (h : j < ts.length) : (wA ts)[j]! = (ts[j]! : Nat) := by
  simp [wA, h]

/-- v is a slice of the words ts, in a block from lo on. -/
def Wsl (w : World) (lo : Nat) (v : Value) (ts : List Nat) : Prop :=
  (v = .slice none 0 0 ∧ ts = []) ∨ ∃ g cap, v = .slice (some ⟨g, 0, none⟩) ts.length cap ∧ lo ≤ g ∧ g < w.heap.size ∧ ∀ j, j < ts.length → w.cell? ⟨g, j, none⟩ = some (.int .u64 (ts[j]! : Nat))

theorem Wsl.below {w w' : World} {lo : Nat} {v : Value} {ts : List Nat} (h : Wsl w lo v ts) (hb : Below w.heap.size w w') : Wsl w' lo v ts := by
  rcases h with h | ⟨g, cap, h1, h2, h3, h4⟩
  · exact Or.inl h
  · exact Or.inr ⟨g, cap, h1, h2, Nat.lt_of_lt_of_le h3 hb.size, fun j hj => (hb.cell (p := ⟨g, j, none⟩) h3).trans (h4 j hj)⟩
theorem Wsl.turn {w w' : World} {X : Nat → Prop} {lo : Nat} {v : Value} {ts : List Nat} (h : Wsl w lo v ts) (hb : Turn X w w') (hX : ∀ i, X i → i < lo) : Wsl w' lo v ts := by
  rcases h with h | ⟨g, cap, h1, h2, h3, h4⟩
  · exact Or.inl h
  · exact Or.inr ⟨g, cap, h1, h2, Nat.lt_of_lt_of_le h3 hb.size, fun j hj => (World.cell?_of_block (a := ⟨g, j, none⟩) (hb.block g h3 fun hx => by have := hX g hx; omega)).trans (h4 j hj)⟩

theorem own_wsl {w : World} {lo : Nat} {v : Value} {ts : List Nat} (h : w.ownsRow lo 22 1 v ts.length (ts.map wordV)) : Wsl w lo v ts := by
  rcases h.2 with ⟨rfl, hz⟩ | ⟨g, cap, cur, rfl, hbase, hb, r1, r2, r3, r4⟩
  · exact Or.inl ⟨rfl, List.eq_nil_of_length_eq_zero hz⟩
  · refine Or.inr ⟨g, cap, rfl, hbase, (Array.getElem?_eq_some_iff.1 hb).1, fun j hj => ?_⟩
    have h5 : (cur.toList.take (ts.length * 1))[j]? = (ts.map wordV)[j]? := by rw [r4]
    rw [List.getElem?_take_of_lt (by omega)] at h5
    simp only [World.cell?, hb]
    simp only [Option.isSome_none, Bool.false_eq_true, if_false]
    rw [← Array.getElem?_toList, h5]
    simp [hj, wordV]

theorem own_rw {w : World} {lo : Nat} {v : Value} {ts : List Nat} (h : w.ownsRow lo 22 1 v ts.length (ts.map wordV)) :
    (v = .slice none 0 0 ∧ ts = []) ∨ ∃ g cap, v = .slice (some ⟨g, 0, none⟩) ts.length cap ∧ lo ≤ g ∧ g < w.heap.size ∧ Rw w g (wA ts) := by
  have hw := own_wsl h
  rcases h.2 with ⟨rfl, hz⟩ | ⟨g, cap, cur, rfl, hbase, hb, r1, r2, r3, r4⟩
  · exact Or.inl ⟨rfl, List.eq_nil_of_length_eq_zero hz⟩
  · rcases hw with ⟨h0, _⟩ | ⟨g', cap', h1, h2, h3, h4⟩
    · cases h0
    · cases h1
      refine Or.inr ⟨g, cap, rfl, hbase, h3, fun j hj => ?_⟩
      rw [wA_size] at hj
      rw [wA_get ts hj]
      exact ⟨h4 j hj, by simp [World.frozen?, hb]⟩

theorem sorted_words {ss : List Nat} {e : Array Int} (h1 : PermIn 0 (wA ss).size (wA ss) e) (h2 : SortedIn ltInt 0 (wA ss).size e) : ∃ ts : List Nat, e = wA ts ∧ ts.Perm ss ∧ ts.Pairwise (fun x y => x ≤ y) := by
  have hz : e.size = (wA ss).size := h1.1
  have hp : e.toList.Perm (wA ss).toList := by
    have := h1.2.2
    rw [show (wA ss).extract 0 (wA ss).size = wA ss by simp, show e.extract 0 (wA ss).size = e by rw [← hz]; simp] at this
    exact this
  have hp2 : e.toList.Perm (ss.map fun x : Nat => (x : Int)) := by simpa [wA] using hp
  have hn : ∀ z ∈ e.toList, ((z.toNat : Nat) : Int) = z := by
    intro z hzm
    obtain ⟨x, _, rfl⟩ := List.mem_map.1 (hp2.mem_iff.1 hzm)
    rfl
  have e1 : e = wA (e.toList.map Int.toNat) := by
    apply Array.ext'
    unfold wA
    rw [List.map_map]
    show e.toList = _
    conv => lhs; rw [← List.map_id e.toList]
    exact List.map_congr_left fun z hzm => (hn z hzm).symm
  refine ⟨e.toList.map Int.toNat, e1, ?_, ?_⟩
  · have := hp2.map Int.toNat
    rw [List.map_map] at this
    refine this.trans ?_
    rw [show (Int.toNat ∘ fun x : Nat => (x : Int)) = id by funext x; rfl, List.map_id]
  · rw [List.pairwise_map, List.pairwise_iff_getElem]
    intro i j hi hj hij
    have hi' : i < e.size := by simpa using hi
    have hj' : j < e.size := by simpa using hj
    have := lt_f.1 (h2 i j (Nat.zero_le _) hij (by omega))
    rw [getElem!_pos e i hi', getElem!_pos e j hj'] at this
    simp only [Array.getElem_toList]
    omega

set_option maxHeartbeats 1000000 in
theorem sorted_c (g : Nat) (lb : Array Value) (eg : ∀ args w, (callFunc g args).run Try.prog w = .ok (.enter g args) w) (S Sp : List Nat → Prop) (N : Nat) (hN : N ≤ 100000000) (hSN : ∀ ss, S ss → ss.length ≤ N) (w : World) (hseq : SeqStopsK Fence.wide 6 Try.prog g lb (fun x : Nat => #[Value.int .u64 (x : Nat)]) KeepsWalks S Sp N w) :
    Calls Try.prog 37 #[.func (.func g) #[] lb] w fun r w' => ∃ (v : Value) (ss ts : List Nat), r = .returned v ∧ S ss ∧ ts.Perm ss ∧ ts.Pairwise (fun x y => x ≤ y) ∧ Wsl w' w.heap.size v ts ∧ Below w.heap.size w w' := by
  have hc := callsIn_wide.1 (collect_in Fence.wide 8 trivial trivial rfl (by omega) g lb trivial eg S Sp N hN w hseq)
  clear hseq
  go_enter Try.func37, Try.ntmps37
  go_wp2_with fail
  refine hc.mono ?_
  rintro e w1 ⟨v, ss, rfl, hS, hrow, hnil, hb⟩
  have HS := Hid.mk hS
  have HB := Hid.mk hb
  clear hc hS hb
  have h4 := hSN ss HS.out
  rcases own_rw hrow with ⟨rfl, rfl⟩ | ⟨b, cap, rfl, h1, h2, h3⟩
  · go_wp2_with fail
    refine (sort_nil w1).mono ?_
    rintro e w2 ⟨rfl, rfl⟩
    go_wp2
    go_ret
    exact ⟨_, [], [], rfl, HS.out, List.Perm.refl _, List.Pairwise.nil, Or.inl ⟨rfl, rfl⟩, HB.out⟩
  · have hs := sort_c cap h3 h2 (by rw [wA_size]; omega)
    have HL := Hid.mk h1
    have HZ := Hid.mk (wA_size ss)
    rw [wA_size] at hs
    clear hrow hnil h3 h1
    generalize hn : ss.length = n at *
    have HN := Hid.mk hn
    clear hn
    go_wp2_with fail
    refine hs.mono ?_
    rintro e w2 ⟨rfl, hw⟩
    have HW := Hid.mk hw
    clear hs hw
    go_wp2
    go_ret
    obtain ⟨e, hp, hso, ht⟩ := HW.out
    rw [← HZ.out] at hp hso
    obtain ⟨ts, rfl, h5, h6⟩ := sorted_words hp hso
    have hlen : ts.length = n := h5.length_eq.trans HN.out
    refine ⟨.slice (some ⟨b, 0, none⟩) n cap, ss, ts, rfl, HS.out, h5, h6, Or.inr ⟨b, cap, by rw [hlen], HL.out, ht.lt, fun j hj => ?_⟩, ?_⟩
    · rw [(ht.1 j (by rw [wA_size]; exact hj)).1, wA_get ts hj]
    · exact HB.out.trans (ht.2.1.below (fun i hi => by have := HL.out; omega) HB.out.size)

/-- Is something in the page from x on not 0? -/
def Pgd (f : Nat → Nat) (x : Nat) : Prop := x % 4096 = 0 ∧ ∃ i, i < 512 ∧ f (x + 8 * i) ≠ 0

theorem Pages.most {w : World} {mb n : Nat} {pg : Nat → Option Nat} (h : Pages w mb n pg) (ss : List Nat) (hs : KeysOf pg ss) : ss.length ≤ n := by
  obtain ⟨ks, h1, h2, h3, _⟩ := h.len
  have : ss.Perm ks := (List.perm_ext_iff_of_nodup hs.1 h1).2 fun x => (hs.2 x).trans (h2 x).symm
  rw [this.length_eq]; exact h3

theorem Mem.keys {w : World} {X : Nat → Prop} {a S n : Nat} {f : Nat → Nat} {mb : Nat} {pg : Nat → Option Nat} (h : Mem w X a S n f mb pg) (x : Nat) : (x < 18446744073709551616 ∧ (pg x).isSome = true) ↔ Pgd f x := by
  constructor
  · rintro ⟨_, h2⟩
    cases hp : pg x with
    | none => rw [hp] at h2; cases h2
    | some b =>
      obtain ⟨_, h3, _, _, h4⟩ := h.page x b hp
      exact ⟨h3, h4⟩
  · rintro ⟨h1, i, h2, h3⟩
    have hlt : x + 8 * i < S := by
      by_cases c : S ≤ x + 8 * i
      · exact absurd (h.out _ (Or.inr c)) h3
      · omega
    have := h.s0.2.1
    refine ⟨by omega, ?_⟩
    cases hp : pg x with
    | none => exact absurd (h.zero x h1 hp i h2) h3
    | some b => rfl

set_option maxHeartbeats 1000000 in
theorem pages_c {w : World} {X : Nat → Prop} {a S n : Nat} {f : Nat → Nat} (h : MemAt w X a S n f) (hn : n ≤ 100000000) :
    Calls Try.prog 31 #[.pointer (some ⟨a, 0, none⟩)] w fun r w' => ∃ (v : Value) (ts : List Nat), r = .returned v ∧ ts.Pairwise (fun x y => x < y) ∧ (∀ x, x ∈ ts ↔ Pgd f x) ∧ Wsl w' w.heap.size v ts ∧ Below w.heap.size w w' := by
  obtain ⟨mb, pg, h⟩ := h
  have c1 := h.c1
  have hk := fun w => callsIn_wide.1 (keys_in Fence.wide 9 trivial rfl (some mb) w)
  have hbo : Below w.heap.size w (w.alloc (.cells #[.map (some mb)] 54)) := (Below.refl _ _).alloc (Nat.le_refl _) _
  have hst := keysit_stops Fence.wide 6 trivial rfl (by omega) w.heap.size mb n pg (w.alloc (.cells #[.map (some mb)] 54)) (by simp) (by simp) (h.pgs.block (hbo.block mb h.pgs.lt))
  have hso := sorted_c _ _ (enters_of Try.func41 (by kernel_rfl) rfl) _ _ _ hn h.pgs.most _ hst
  have HH := Hid.mk h
  have HB := Hid.mk hbo
  clear h hbo hst
  go_enter Try.func31, Try.ntmps31
  go_wp2_with fail
  refine (hk _).mono ?_
  rintro e w1 ⟨rfl, hw⟩
  subst hw
  go_wp2_with fail
  refine hso.mono ?_
  rintro e w2 ⟨v, ss, ts, rfl, hS, hP, hA, hW, hb⟩
  have HF := Hid.mk (And.intro hS (And.intro hP (And.intro hA (And.intro hW hb))))
  clear hS hP hA hW hb hso hk
  go_wp2
  go_ret
  obtain ⟨hS, hP, hA, hW, hb⟩ := HF.out
  have hnd : ts.Nodup := hP.nodup_iff.2 hS.1
  refine ⟨v, ts, rfl, ?_, fun x => ?_, ?_, HB.out.trans (hb.mono (by simp))⟩
  · exact List.Pairwise.imp₂ (fun x y h1 h2 => Nat.lt_of_le_of_ne h1 h2) hA hnd
  · rw [hP.mem_iff, hS.2 x]
    exact HH.out.keys x
  · rcases hW with hW | ⟨g, cap, h1, h2, h3⟩
    · exact Or.inl hW
    · exact Or.inr ⟨g, cap, h1, by simp at h2; omega, h3⟩
end Go.Proofs.Ytiedlkhbbnjkbaa
