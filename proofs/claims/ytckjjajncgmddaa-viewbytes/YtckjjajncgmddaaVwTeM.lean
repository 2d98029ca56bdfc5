import Derived.Test.YtckjjajncgmddaaVwTmM
/- What Take reads, told by messages. -/
namespace Go.Proofs.Ytckjjajncgmddaa
open Go.RowKit
theorem rdVE_to (s : ByteArray) : ∀ (n a : Nat) (e : Int) (L : List Ent), a ≤ s.size → (rdVE s n a e L).2.1 ≤ s.size
  | 0, _, _, _, ha => ha
  | n + 1, a, e, L, ha => by
    obtain ⟨⟨n1, a1, e1⟩, h1⟩ : ∃ q, rdCount s a e 2147483647 = q := ⟨_, rfl⟩
    obtain ⟨⟨t, a2, e2⟩, h2⟩ : ∃ q, rdText s a1 e1 = q := ⟨_, rfl⟩
    rw [rdVE_step h1 h2]
    exact rdVE_to s n a2 e2 _ (rdText_leV (rdCount_to (most := 2147483647) ha h1).1 h2)
theorem vRd_le {s : ByteArray} {n a a' : Nat} {e e' : Int} {L R : List Ent} (h : rdVE s n a e L = (R, a', e')) (ha : a ≤ s.size) : a' ≤ s.size := by
  have := rdVE_to s n a e L ha
  rw [h] at this
  exact this
/-- The bytes of a message are read as that message. -/
theorem take_enc {w : World} {p : Nat} {s : ByteArray} (m : VM) (h : Rd w p s 0 0) (hs : s.size ≤ maxLen) (hm : s.data.toList = vmB m) (hn : ∀ x ∈ m.nums, 0 ≤ x ∧ x ≤ 2147483647) (hl : m.en.length ≤ 1000) (he : ∀ x ∈ m.en, 0 ≤ x.v ∧ x.v ≤ 2147483647 ∧ x.s.size < 18446744073709551616) (hb : m.base.size < 18446744073709551616) :
    Calls Try.prog 15 #[.pointer (some ⟨p, 0, none⟩)] w fun r w' => (∃ ev, r = .returned (vmV m ev) ∧ EnO w' w.heap.size ev m.en) ∧ Rd w' p s s.size 0 ∧ Fr w w' (fun k => k = p) := by
  obtain ⟨n0, a0, e0, h0⟩ : ∃ n a e, rdCount s 0 0 2147483647 = (n, a, e) := ⟨_, _, _, rfl⟩
  obtain ⟨n1, a1, e1, h1⟩ : ∃ n a e, rdCount s a0 e0 2147483647 = (n, a, e) := ⟨_, _, _, rfl⟩
  obtain ⟨n2, a2, e2, h2⟩ : ∃ n a e, rdCount s a1 e1 2147483647 = (n, a, e) := ⟨_, _, _, rfl⟩
  obtain ⟨n3, a3, e3, h3⟩ : ∃ n a e, rdCount s a2 e2 2147483647 = (n, a, e) := ⟨_, _, _, rfl⟩
  obtain ⟨n4, a4, e4, h4⟩ : ∃ n a e, rdCount s a3 e3 2147483647 = (n, a, e) := ⟨_, _, _, rfl⟩
  obtain ⟨n5, a5, e5, h5⟩ : ∃ n a e, rdCount s a4 e4 2147483647 = (n, a, e) := ⟨_, _, _, rfl⟩
  obtain ⟨n6, a6, e6, h6⟩ : ∃ n a e, rdCount s a5 e5 2147483647 = (n, a, e) := ⟨_, _, _, rfl⟩
  obtain ⟨n7, a7, e7, h7⟩ : ∃ n a e, rdCount s a6 e6 2147483647 = (n, a, e) := ⟨_, _, _, rfl⟩
  obtain ⟨n8, a8, e8, h8⟩ : ∃ n a e, rdCount s a7 e7 2147483647 = (n, a, e) := ⟨_, _, _, rfl⟩
  have k1 := rdCs_enc (s := s) m.nums [] (textB m.base.data.toList ++ (numB m.en.length ++ m.en.flatMap entB)) (by rw [hm]; unfold vmB; simp) hn
  rw [show m.nums.length = 8 + 1 from rfl, show ([] : List UInt8).length = 0 from rfl, rdCs_step h0, rdCs_step h1, rdCs_step h2, rdCs_step h3, rdCs_step h4, rdCs_step h5, rdCs_step h6, rdCs_step h7, rdCs_step h8] at k1
  simp only [rdCs, VM.nums, List.map_cons, List.map_nil, Prod.mk.injEq, List.cons.injEq, and_true, List.nil_append] at k1
  obtain ⟨⟨m0, m1, m2, m3, m4, m5, m6, m7, m8⟩, ha8, rfl⟩ := k1
  have k2 := text_atV (s := s) (t := m.base) (a := numsB m.nums) (c := numB m.en.length ++ m.en.flatMap entB) (by rw [hm]; unfold vmB; simp) hb
  have k3 := count_at (s := s) (most := 1000) (a := numsB m.nums ++ textB m.base.data.toList) (n := m.en.length) (c := m.en.flatMap entB) (by rw [hm]; unfold vmB; simp) hl (by decide)
  have k4 := rdVE_enc (s := s) m.en (numsB m.nums ++ textB m.base.data.toList ++ numB m.en.length) [] [] (by rw [hm]; unfold vmB; simp) he
  have hsz : (numsB m.nums ++ textB m.base.data.toList ++ numB m.en.length ++ m.en.flatMap entB).length = s.size := by
    have : s.size = s.data.toList.length := by simp
    rw [this, hm]; rfl
  rw [hsz, List.nil_append] at k4
  have ha8' : a8 = (numsB m.nums).length := ha8
  rw [← ha8'] at k2
  refine (take_any h hs (Nat.zero_le _) h0 h1 h2 h3 h4 h5 h6 h7 h8 k2 k3 k4).mono ?_
  rintro r w' ⟨hr, h2, h3⟩
  refine ⟨?_, h2, h3⟩
  rcases hr with ⟨-, ev, rfl, hE⟩ | ⟨hne, -⟩
  · refine ⟨ev, ?_, hE⟩
    have q : ∀ x ∈ m.nums, ((x.toNat : Nat) : Int) = x := fun x hx => Int.toNat_of_nonneg (hn x hx).1
    obtain ⟨x0, x1, x2, x3, x4, x5, x6, x7, x8, mb, en⟩ := m
    simp only [VM.nums, List.mem_cons, List.not_mem_nil, or_false, forall_eq_or_imp, forall_eq] at q
    obtain ⟨q0, q1, q2, q3, q4, q5, q6, q7, q8⟩ := q
    rw [m0, m1, m2, m3, m4, m5, m6, m7, m8]
    simp only [vmV, q0, q1, q2, q3, q4, q5, q6, q7, q8]
  · exact absurd rfl hne
/-- Any bytes: a message whose bytes they begin with, or none and an error. -/
theorem take_says {w : World} {p : Nat} {s : ByteArray} (h : Rd w p s 0 0) (hs : s.size ≤ maxLen) :
    Calls Try.prog 15 #[.pointer (some ⟨p, 0, none⟩)] w fun r w' => ∃ (aF : Nat) (eF : Int), Rd w' p s aF eF ∧ Fr w w' (fun k => k = p) ∧ aF ≤ s.size ∧ ((eF = 0 ∧ ∃ (m : VM) (ev : Value), r = .returned (vmV m ev) ∧ EnO w' w.heap.size ev m.en ∧ s.data.toList.take aF = vmB m ∧ (∀ x ∈ m.nums, 0 ≤ x ∧ x ≤ 2147483647) ∧ (∀ x ∈ m.en, 0 ≤ x.v ∧ x.v ≤ 2147483647) ∧ m.en.length ≤ 1000) ∨ (eF ≠ 0 ∧ r = .returned (.agg #[.int .i64 0, .int .i64 0, .int .i64 0, .int .i64 0, .int .i64 0, .int .i64 0, .int .i64 0, .int .i64 0, .int .i64 0, .string (str []), .slice none 0 0]))) := by
  obtain ⟨n0, a0, e0, h0⟩ : ∃ n a e, rdCount s 0 0 2147483647 = (n, a, e) := ⟨_, _, _, rfl⟩
  have g0 := rdCount_to (most := 2147483647) (Nat.zero_le _) h0
  obtain ⟨n1, a1, e1, h1⟩ : ∃ n a e, rdCount s a0 e0 2147483647 = (n, a, e) := ⟨_, _, _, rfl⟩
  have g1 := rdCount_to (most := 2147483647) g0.1 h1
  obtain ⟨n2, a2, e2, h2⟩ : ∃ n a e, rdCount s a1 e1 2147483647 = (n, a, e) := ⟨_, _, _, rfl⟩
  have g2 := rdCount_to (most := 2147483647) g1.1 h2
  obtain ⟨n3, a3, e3, h3⟩ : ∃ n a e, rdCount s a2 e2 2147483647 = (n, a, e) := ⟨_, _, _, rfl⟩
  have g3 := rdCount_to (most := 2147483647) g2.1 h3
  obtain ⟨n4, a4, e4, h4⟩ : ∃ n a e, rdCount s a3 e3 2147483647 = (n, a, e) := ⟨_, _, _, rfl⟩
  have g4 := rdCount_to (most := 2147483647) g3.1 h4
  obtain ⟨n5, a5, e5, h5⟩ : ∃ n a e, rdCount s a4 e4 2147483647 = (n, a, e) := ⟨_, _, _, rfl⟩
  have g5 := rdCount_to (most := 2147483647) g4.1 h5
  obtain ⟨n6, a6, e6, h6⟩ : ∃ n a e, rdCount s a5 e5 2147483647 = (n, a, e) := ⟨_, _, _, rfl⟩
  have g6 := rdCount_to (most := 2147483647) g5.1 h6
  obtain ⟨n7, a7, e7, h7⟩ : ∃ n a e, rdCount s a6 e6 2147483647 = (n, a, e) := ⟨_, _, _, rfl⟩
  have g7 := rdCount_to (most := 2147483647) g6.1 h7
  obtain ⟨n8, a8, e8, h8⟩ : ∃ n a e, rdCount s a7 e7 2147483647 = (n, a, e) := ⟨_, _, _, rfl⟩
  have g8 := rdCount_to (most := 2147483647) g7.1 h8
  obtain ⟨t, a9, e9, h9⟩ : ∃ n a e, rdText s a8 e8 = (n, a, e) := ⟨_, _, _, rfl⟩
  have g9 := rdText_leV g8.1 h9
  obtain ⟨c, a10, e10, h10⟩ : ∃ n a e, rdCount s a9 e9 1000 = (n, a, e) := ⟨_, _, _, rfl⟩
  have g10 := rdCount_to (most := 1000) g9 h10
  obtain ⟨L, aF, eF, hF⟩ : ∃ n a e, rdVE s c a10 e10 [] = (n, a, e) := ⟨_, _, _, rfl⟩
  refine (take_any h hs (Nat.zero_le _) h0 h1 h2 h3 h4 h5 h6 h7 h8 h9 h10 hF).mono ?_
  rintro r w' ⟨hr, hR, hFr⟩
  rcases hr with ⟨rfl, ev, rfl, hE⟩ | ⟨hne, rfl⟩
  · obtain ⟨rfl, E, rfl, d4, d5, d6⟩ := rdVE_only _ _ _ _ _ _ g10.1 hF
    obtain rfl := g10.2.2.1 rfl
    have d3 := rdCount_only (most := 1000) g9 h10
    obtain ⟨rfl, d2⟩ := rdText_onlyV g8.1 h9
    have k1 : rdCs s 9 0 0 = ([n0, n1, n2, n3, n4, n5, n6, n7, n8], a8, 0) := by
      rw [show 9 = 8 + 1 from rfl, rdCs_step h0, rdCs_step h1, rdCs_step h2, rdCs_step h3, rdCs_step h4, rdCs_step h5, rdCs_step h6, rdCs_step h7, rdCs_step h8]
      rfl
    obtain ⟨-, d1, -⟩ := rdCs_only _ _ _ _ _ (Nat.zero_le _) k1
    have hlen : L.length = c := by have := rdVE_len s c a10 0 []; rw [hF] at this; simpa using this
    have hall : s.data.toList = vmB ⟨n0, n1, n2, n3, n4, n5, n6, n7, n8, t, L⟩ ++ s.data.toList.drop aF := by
      rw [List.drop_zero] at d1
      rw [d2, d3, d4] at d1
      refine d1.trans ?_
      unfold vmB
      rw [hlen]
      simp [numsB, VM.nums]
    refine ⟨aF, 0, hR, hFr, d5, .inl ⟨rfl, ⟨n0, n1, n2, n3, n4, n5, n6, n7, n8, t, L⟩, ev, rfl, hE, ?_, ?_, d6, by show L.length ≤ 1000; rw [hlen]; exact g10.2.1⟩⟩
    · have hs' : s.data.toList.length = s.size := by simp
      have e1 : (vmB ⟨n0, n1, n2, n3, n4, n5, n6, n7, n8, t, L⟩).length = aF := by
        have := congrArg List.length hall
        rw [List.length_append, List.length_drop, hs'] at this
        omega
      rw [hall, List.take_append_of_le_length (by omega), ← e1, List.take_length]
    · intro x hx
      simp only [VM.nums, List.mem_cons, List.not_mem_nil, or_false] at hx
      rcases hx with rfl | rfl | rfl | rfl | rfl | rfl | rfl | rfl | rfl
      · have := g0.2.1; omega
      · have := g1.2.1; omega
      · have := g2.2.1; omega
      · have := g3.2.1; omega
      · have := g4.2.1; omega
      · have := g5.2.1; omega
      · have := g6.2.1; omega
      · have := g7.2.1; omega
      · have := g8.2.1; omega
  · refine ⟨aF, eF, hR, hFr, ?_, .inr ⟨hne, rfl⟩⟩
    exact vRd_le hF g10.1
end Go.Proofs.Ytckjjajncgmddaa
