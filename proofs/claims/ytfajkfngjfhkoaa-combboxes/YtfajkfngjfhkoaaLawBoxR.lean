/- CombBoxes: its range, which may be left. -/
import Derived.Test.YtfajkfngjfhkoaaLawOrdR
namespace Go.Proofs.Ytfajkfngjfhkoaa
open Go.RowKit Go.Shelf Go.Maps
attribute [local go_sem] Oper.semAt_some
theorem own_lenM {W : World} {v : Value} {L : List Msg} {x : Msg} (h : W.ownsRow 0 67 4 v (L.length + 1) (L.flatMap msgCells ++ msgCells x)) : ∃ ao c, v = .slice ao (L.length + 1) c := by
  obtain ⟨ao, c, e⟩ := Mo.shape (Mo.snoc h)
  refine ⟨ao, c, ?_⟩
  rw [e, List.length_append]
  rfl
set_option maxRecDepth 100000 in
set_option maxHeartbeats 4000000 in
theorem box_range {w0 : World} {O : Nat → Prop} {N Bs bp br bs : Nat} {B : List Msg} {mv : Value} {stop : Int} {ds : List Deferred} {x0 x1 x2 x4 x5 x6 x7 x8 x9 x10 x12 x13 x14 x15 x16 x17 x18 x19 x20 x21 x22 x23 x24 x25 x26 x27 x28 x29 x30 x31 x32 x33 x34 x35 x36 x37 x38 x39 x40 x41 x42 x43 x44 x45 x46 x47 x48 x49 x50 x51 x52 x53 x54 x55 x56 x57 x58 x59 x60 x61 x62 x63 x64 x65 x66 x67 x68 x69 x70 x71 x72 x73 x74 x75 x76 x77 x78 x79 x80 x81 x82 x83 x84 x85 x86 x87 x88 x89 x90 x91 x92 x93 x94 x95 x96 x97 x98 x99 x100 x101 x102 x103 x104 x105 x106 x107 x108 x109 x110 x111 x112 x113 x114 x115 x116 x117 x118 x119 x120 x121 x122 x123 x124 x126 x127 x128 x129 x130 x131 x132 x133 x134 x135 x136 x137 x138 x139 x140 x141 x142 x143 x144 x145 x146 x147 x148 : Value} {K : Act → World → Prop} {Q' : Exit → Act → World → Prop}
    (hM : MH w0 O N B mv) (hO : ∀ k, O k → k < w0.heap.size) (hBs : w0.cell? ⟨Bs, 0, none⟩ = some mv) (hB : B.length * 32 ≤ 140737488355328) (hok : ∀ m ∈ B, m.ok)
    (hp : w0.heap[bp]? = some (.cells #[.slice (some ⟨br, 0, none⟩) 0 0] 58 (0, 0))) (hr : w0.heap[br]? = some (.cells #[] 67 (0, 0))) (hpO : ¬ O bp) (hrO : ¬ O br)
    (hst : w0.heap[bs]? = some (.cells #[.int .i64 stop] 3 (0, 0))) (hsp : ¬ bs = bp) (hsr : ¬ bs = br)
    (HC : ∀ (wx : World) (D : Nat) (T : Nat → Prop) (pre : List Msg), CP w0 wx bp br pre T → ((pre = sortM B ∧ (stop ≤ 0 ∨ (pre.length : Int) < stop)) ∨ (pre <+: sortM B ∧ (pre.length : Int) = stop ∧ 0 < pre.length)) → w0.heap.size ≤ D → ¬ T D → wx.heap[D]? = some (.deferred (some [])) → K ⟨(List.toArray (x0 :: x1 :: x2 :: (.pointer (some ⟨bs, 0, none⟩)) :: x4 :: x5 :: x6 :: x7 :: x8 :: x9 :: x10 :: (.pointer (some ⟨bp, 0, none⟩)) :: x12 :: x13 :: x14 :: x15 :: x16 :: x17 :: x18 :: x19 :: x20 :: x21 :: x22 :: x23 :: x24 :: x25 :: x26 :: x27 :: x28 :: x29 :: x30 :: x31 :: x32 :: x33 :: x34 :: x35 :: x36 :: x37 :: x38 :: x39 :: x40 :: x41 :: x42 :: x43 :: x44 :: x45 :: x46 :: x47 :: x48 :: x49 :: x50 :: x51 :: x52 :: x53 :: x54 :: x55 :: x56 :: x57 :: x58 :: x59 :: x60 :: x61 :: x62 :: x63 :: x64 :: x65 :: x66 :: x67 :: x68 :: x69 :: x70 :: x71 :: x72 :: x73 :: x74 :: x75 :: x76 :: x77 :: x78 :: x79 :: x80 :: x81 :: x82 :: x83 :: x84 :: x85 :: x86 :: x87 :: x88 :: x89 :: x90 :: x91 :: x92 :: x93 :: x94 :: x95 :: x96 :: x97 :: x98 :: x99 :: x100 :: x101 :: x102 :: x103 :: x104 :: x105 :: x106 :: x107 :: x108 :: x109 :: x110 :: x111 :: x112 :: x113 :: x114 :: x115 :: x116 :: x117 :: x118 :: x119 :: x120 :: x121 :: x122 :: x123 :: x124 :: (.func (.func 61) #[] #[.pointer (some ⟨Bs, 0, none⟩)]) :: x126 :: x127 :: x128 :: x129 :: x130 :: x131 :: x132 :: x133 :: x134 :: x135 :: x136 :: x137 :: x138 :: x139 :: x140 :: x141 :: x142 :: x143 :: x144 :: x145 :: x146 :: x147 :: x148 :: [])), { target := .collected D, args := #[] } :: ds⟩ wx) :
    Code.wp Try.prog ((Try.f6.body.bind (inBlkC 4)).getD .skip) (Exit.inBlock 4 (Exit.then K Q')) ⟨(List.toArray (x0 :: x1 :: x2 :: (.pointer (some ⟨bs, 0, none⟩)) :: x4 :: x5 :: x6 :: x7 :: x8 :: x9 :: x10 :: (.pointer (some ⟨bp, 0, none⟩)) :: x12 :: x13 :: x14 :: x15 :: x16 :: x17 :: x18 :: x19 :: x20 :: x21 :: x22 :: x23 :: x24 :: x25 :: x26 :: x27 :: x28 :: x29 :: x30 :: x31 :: x32 :: x33 :: x34 :: x35 :: x36 :: x37 :: x38 :: x39 :: x40 :: x41 :: x42 :: x43 :: x44 :: x45 :: x46 :: x47 :: x48 :: x49 :: x50 :: x51 :: x52 :: x53 :: x54 :: x55 :: x56 :: x57 :: x58 :: x59 :: x60 :: x61 :: x62 :: x63 :: x64 :: x65 :: x66 :: x67 :: x68 :: x69 :: x70 :: x71 :: x72 :: x73 :: x74 :: x75 :: x76 :: x77 :: x78 :: x79 :: x80 :: x81 :: x82 :: x83 :: x84 :: x85 :: x86 :: x87 :: x88 :: x89 :: x90 :: x91 :: x92 :: x93 :: x94 :: x95 :: x96 :: x97 :: x98 :: x99 :: x100 :: x101 :: x102 :: x103 :: x104 :: x105 :: x106 :: x107 :: x108 :: x109 :: x110 :: x111 :: x112 :: x113 :: x114 :: x115 :: x116 :: x117 :: x118 :: x119 :: x120 :: x121 :: x122 :: x123 :: x124 :: (.func (.func 61) #[] #[.pointer (some ⟨Bs, 0, none⟩)]) :: x126 :: x127 :: x128 :: x129 :: x130 :: x131 :: x132 :: x133 :: x134 :: x135 :: x136 :: x137 :: x138 :: x139 :: x140 :: x141 :: x142 :: x143 :: x144 :: x145 :: x146 :: x147 :: x148 :: [])), ds⟩ w0 := by
  obtain ⟨i0, hi, hz0, hz1, hz2⟩ := info_parts infoMsg
  conv => arg 2; whnf
  have HH : Hid _ := HC
  have hbr := m_lt hr
  have hbp := m_lt hp
  have hbs := m_lt hst
  have hne : br ≠ bp := fun e => by subst e; rw [hp] at hr; cases hr
  have hC0 : CP w0 w0 bp br [] (fun k => k = bp ∨ k = br) := ⟨⟨_, hp, ⟨by simp, Or.inr ⟨br, 0, #[], rfl, Nat.zero_le _, hr, Nat.le_refl _, by unfold maxLen; omega, by simp, by simp⟩⟩, fun k hk => by
    simp only [Value.ownBlock, Option.some.injEq] at hk
    subst hk
    exact ⟨Or.inr rfl, hne, Or.inl rfl⟩⟩, Or.inl rfl, Fr.refl _ _⟩
  clear HC
  refine (wpIn_wide (n := 9)).1 ?_
  refine wpIn_rangeT (lb := #[.pointer (some ⟨Bs, 0, none⟩)]) (gf := 61) rfl (enters_of Try.func61 (by kernel_rfl) rfl)
    (all_T hM hO hBs hB hok) (Below.refl _ _) (fun _ => rfl)
    (fun pre T W => CP w0 W bp br pre T ∧ (stop ≤ 0 ∨ (pre.length : Int) < stop)) (fun c pre T W => c = .exit 4 ∧ CP w0 W bp br pre T ∧ (pre.length : Int) = stop ∧ 0 < pre.length) (fun s T W W' h f => ⟨CP.stands s T W W' h.1 f, h.2⟩) (fun _ s T W W' h f => ⟨h.1, CP.stands s T W W' h.2.1 f, h.2.2⟩) (fun k => k = bp ∨ k = br) (fun k hk => hk.elim (fun e => by subst e; exact ⟨hbp, hpO⟩) (fun e => by subst e; exact ⟨hbr, hrO⟩)) ⟨hC0, by simp; omega⟩ ?round ?done ?stop
  case round =>
    rintro m l pre T x W hl0 ⟨r, hrr⟩ hTl ⟨hI, hIs⟩ _ hpre
    have hlen : pre.length < B.length := by
      have := hpre.length_le
      rw [sortM_len] at this
      simp at this
      omega
    obtain ⟨⟨sv, g1, g2, g3⟩, g5, g6⟩ := hI
    obtain ⟨ao', c', rfl⟩ := g2.shape
    have hlt := m_lt hrr
    have lob := m_lt g1
    dsimp only [encM]
    gi_wp2
    refine ⟨Fr.alloc _ _ _, fun W2 f2 => ?_⟩
    have hs2 : W.heap.size + 1 ≤ W2.heap.size := by have := f2.size; rw [World.size_alloc] at this; exact this
    have v0 := (f2.block W.heap.size (by rw [World.size_alloc]; omega) (by omega)).trans (heap_alloc_new _ _)
    have o0 := (f2.block bp (by rw [World.size_alloc]; omega) (fun e => hTl (e ▸ g5))).trans ((Below.heap_alloc _ _ _ lob).trans g1)
    have r0 := (g2.alloc (.cells #[.int .i64 x.f, .int .i64 x.t, .int .i64 x.a, .int .i64 x.v] 67)).fr f2 (fun k hk e => hTl (e ▸ (g3 k hk).1))
    have f0 : Fr w0 W2 (fun k => k = bp ∨ k = br ∨ w0.heap.size ≤ k) := (g6.trans (Fr.alloc W _ (fun _ => False)) (fun _ _ h => h.elim)).trans f2 (fun k _ e => .inr (.inr (by omega)))
    have s0 := (f0.block bs hbs (fun e => by omega)).trans hst
    obtain ⟨q0, q1, q2, q3⟩ := m_cells v0
    obtain ⟨p0, p1⟩ := bx_one o0
    have HR0 : Hid _ := r0.alloc (.cells #[.int .i64 x.f, .int .i64 x.t, .int .i64 x.a, .int .i64 x.v] 67)
    have HO0 : Hid _ := o0
    have HF0 : Hid _ := f0
    have HS0 : Hid _ := s0
    clear r0 o0 v0 f2 hC0 hM hBs f0 g6 s0
    by_cases hs : (pre.length : Int) + 1 = stop
    all_goals gi_wp2_with (gi_at_builtin; refine wpListIn_append_own_at _ rfl _ _ 58 rfl 0 67 i0 (.agg #[.int .i64 0, .int .i64 0, .int .i64 0, .int .i64 0]) 4 32 Try.underlying58 hi hz0 hz1 hz2 rfl (by decide) _ _ _ rfl HR0.out ⟨W2.heap.size, 0, none⟩ 1 1 (msgCells x) rfl rfl (m_four (heap_alloc_new _ _)) (msgOne x) (by unfold maxLen; omega) (by omega) (Nat.zero_le _) ?_; intro v' w4 hown hgrow _ hat; have o4 := ((Fr.grown (S := fun k => (Value.slice ao' pre.length c').ownBlock = some k) hgrow (fun k hk => hk)).block _ (by rw [World.size_alloc]; have := m_lt HO0.out; omega) (fun hk => (g3 _ hk).2.1 rfl)).trans ((Below.heap_alloc W2 _ _ (m_lt HO0.out)).trans HO0.out); have s4 := ((Fr.grown (S := fun k => (Value.slice ao' pre.length c').ownBlock = some k) hgrow (fun k hk => hk)).block bs (by rw [World.size_alloc]; have := m_lt HS0.out; omega) (fun hk => by have := (g3 _ hk).2.2; omega)).trans ((Below.heap_alloc W2 _ _ (m_lt HS0.out)).trans HS0.out); obtain ⟨p4, p5⟩ := bx_one o4; obtain ⟨t4, t5⟩ := bx_one s4; obtain ⟨ao2, c2, rfl⟩ := own_lenM hown)
    · obtain ⟨T', F2, G2, C2⟩ := CP.push HO0.out g3 g5 HF0.out (m_lt HO0.out) hown hgrow hat
      exact ⟨T', F2.mono (fun _ _ h => .inl h), G2, rfl, C2, by rw [List.length_append]; simpa using hs, by simp⟩
    · obtain ⟨T', F2, G2, C2⟩ := CP.push HO0.out g3 g5 HF0.out (m_lt HO0.out) hown hgrow hat
      exact ⟨T', F2, G2, C2, by rw [List.length_append]; simp; omega⟩
  case done =>
    rintro D xs T W hD rfl ⟨hI, h2⟩ hTD hK
    exact HH.out W D T _ hI (.inl ⟨rfl, h2⟩) hD hTD hK
  case stop =>
    rintro D c pre T W hD hSp ⟨rfl, hI, h2, h3⟩ hTD hK
    refine wpIn_exit ?_
    exact HH.out W D T _ hI (.inr ⟨hSp, h2, h3⟩) hD hTD hK
end Go.Proofs.Ytfajkfngjfhkoaa
