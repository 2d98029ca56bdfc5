/- CombOrders: its two ranges over boxes. -/
import Derived.Test.YtfajkfngjfhkoaaCbOrdM
namespace Go.Proofs.Ytfajkfngjfhkoaa
open Go.RowKit Go.Shelf Go.Maps
attribute [local go_sem] Oper.semAt_some
/-- What lies in a block of a function's code. -/
def inBlkC (n : Nat) : Code → Option Code
  | .block m c => if m = n then some c else inBlkC n c
  | .loop c => inBlkC n c
  | .seq a b => match inBlkC n a with
    | some c => some c
    | none => inBlkC n b
  | .scope c => inBlkC n c
  | .cond _ a b => match inBlkC n a with
    | some c => some c
    | none => inBlkC n b
  | .rangeFunc _ _ _ b => inBlkC n b
  | _ => none
theorem own_anyM {w : World} {base : Nat} {e : TypeId} {size : Nat} {v : Value} {n : Nat} {xs : List Value} (h : w.ownsRow base e size v n xs) : ∃ ao m c, v = .slice ao m c := by
  rcases h.2 with ⟨rfl, _⟩ | ⟨g, cap, cur, rfl, _⟩
  · exact ⟨_, _, _, rfl⟩
  · exact ⟨_, _, _, rfl⟩
set_option maxRecDepth 100000 in
set_option maxHeartbeats 4000000 in
theorem ord_range1 {w0 : World} {O : Nat → Prop} {N Bs bp br : Nat} {B : List Msg} {mv : Value} {ds : List Deferred} {x0 x1 x2 x3 x4 x5 x6 x7 x8 x10 x11 x12 x13 x14 x15 x16 x17 x18 x19 x20 x21 x22 x23 x24 x25 x26 x27 x28 x29 x30 x31 x32 x33 x34 x35 x36 x37 x38 x39 x40 x41 x42 x43 x44 x45 x46 x47 x49 x50 x51 x52 x53 x54 x55 x56 x57 x58 x59 x60 x61 x62 x63 x64 x65 x66 x67 x68 x69 x70 x71 x72 x73 x74 x75 x76 x77 x78 x79 x80 x81 x82 x83 x84 x85 x86 x87 x88 x89 x90 x91 x92 x93 x94 x95 x96 x97 x98 x99 x100 x101 x102 : Value} {K : Act → World → Prop} {Q' : Exit → Act → World → Prop}
    (hM : MH w0 O N B mv) (hO : ∀ k, O k → k < w0.heap.size) (hBs : w0.cell? ⟨Bs, 0, none⟩ = some mv) (hB : B.length * 32 ≤ 140737488355328) (hok : ∀ m ∈ B, m.ok)
    (hp : w0.heap[bp]? = some (.cells #[.slice (some ⟨br, 0, none⟩) 0 0] 58 (0, 0))) (hr : w0.heap[br]? = some (.cells #[] 67 (0, 0))) (hpO : ¬ O bp) (hrO : ¬ O br)
    (HC : ∀ (wx : World) (D : Nat) (T : Nat → Prop), CP w0 wx bp br (sortM B) T → w0.heap.size ≤ D → ¬ T D → wx.heap[D]? = some (.deferred (some [])) → K ⟨(List.toArray (x0 :: x1 :: x2 :: x3 :: x4 :: x5 :: x6 :: x7 :: x8 :: (.pointer (some ⟨bp, 0, none⟩)) :: x10 :: x11 :: x12 :: x13 :: x14 :: x15 :: x16 :: x17 :: x18 :: x19 :: x20 :: x21 :: x22 :: x23 :: x24 :: x25 :: x26 :: x27 :: x28 :: x29 :: x30 :: x31 :: x32 :: x33 :: x34 :: x35 :: x36 :: x37 :: x38 :: x39 :: x40 :: x41 :: x42 :: x43 :: x44 :: x45 :: x46 :: x47 :: (.func (.func 61) #[] #[.pointer (some ⟨Bs, 0, none⟩)]) :: x49 :: x50 :: x51 :: x52 :: x53 :: x54 :: x55 :: x56 :: x57 :: x58 :: x59 :: x60 :: x61 :: x62 :: x63 :: x64 :: x65 :: x66 :: x67 :: x68 :: x69 :: x70 :: x71 :: x72 :: x73 :: x74 :: x75 :: x76 :: x77 :: x78 :: x79 :: x80 :: x81 :: x82 :: x83 :: x84 :: x85 :: x86 :: x87 :: x88 :: x89 :: x90 :: x91 :: x92 :: x93 :: x94 :: x95 :: x96 :: x97 :: x98 :: x99 :: x100 :: x101 :: x102 :: [])), { target := .collected D, args := #[] } :: ds⟩ wx) :
    Code.wp Try.prog ((Try.f7.body.bind (inBlkC 2)).getD .skip) (Exit.inBlock 2 (Exit.then K Q')) ⟨(List.toArray (x0 :: x1 :: x2 :: x3 :: x4 :: x5 :: x6 :: x7 :: x8 :: (.pointer (some ⟨bp, 0, none⟩)) :: x10 :: x11 :: x12 :: x13 :: x14 :: x15 :: x16 :: x17 :: x18 :: x19 :: x20 :: x21 :: x22 :: x23 :: x24 :: x25 :: x26 :: x27 :: x28 :: x29 :: x30 :: x31 :: x32 :: x33 :: x34 :: x35 :: x36 :: x37 :: x38 :: x39 :: x40 :: x41 :: x42 :: x43 :: x44 :: x45 :: x46 :: x47 :: (.func (.func 61) #[] #[.pointer (some ⟨Bs, 0, none⟩)]) :: x49 :: x50 :: x51 :: x52 :: x53 :: x54 :: x55 :: x56 :: x57 :: x58 :: x59 :: x60 :: x61 :: x62 :: x63 :: x64 :: x65 :: x66 :: x67 :: x68 :: x69 :: x70 :: x71 :: x72 :: x73 :: x74 :: x75 :: x76 :: x77 :: x78 :: x79 :: x80 :: x81 :: x82 :: x83 :: x84 :: x85 :: x86 :: x87 :: x88 :: x89 :: x90 :: x91 :: x92 :: x93 :: x94 :: x95 :: x96 :: x97 :: x98 :: x99 :: x100 :: x101 :: x102 :: [])), ds⟩ w0 := by
  obtain ⟨i0, hi, hz0, hz1, hz2⟩ := info_parts infoMsg
  conv => arg 2; whnf
  have HH : Hid _ := HC
  have hbr := m_lt hr
  have hbp := m_lt hp
  have hne : br ≠ bp := fun e => by subst e; rw [hp] at hr; cases hr
  have hC0 : CP w0 w0 bp br [] (fun k => k = bp ∨ k = br) := ⟨⟨_, hp, ⟨by simp, Or.inr ⟨br, 0, #[], rfl, Nat.zero_le _, hr, Nat.le_refl _, by unfold maxLen; omega, by simp, by simp⟩⟩, fun k hk => by
    simp only [Value.ownBlock, Option.some.injEq] at hk
    subst hk
    exact ⟨Or.inr rfl, hne, Or.inl rfl⟩⟩, Or.inl rfl, Fr.refl _ _⟩
  clear HC
  refine (wpIn_wide (n := 9)).1 ?_
  refine wpIn_rangeT (lb := #[.pointer (some ⟨Bs, 0, none⟩)]) (gf := 61) rfl (enters_of Try.func61 (by kernel_rfl) rfl)
    (all_T hM hO hBs hB hok) (Below.refl _ _) (fun _ => rfl)
    (fun pre T W => CP w0 W bp br pre T) (fun _ _ _ _ => False) CP.stands (fun _ _ _ _ _ h _ => h.elim) (fun k => k = bp ∨ k = br) (fun k hk => hk.elim (fun e => by subst e; exact ⟨hbp, hpO⟩) (fun e => by subst e; exact ⟨hbr, hrO⟩)) hC0 ?round ?done (fun _ _ _ _ _ _ _ h => h.elim)
  case round =>
    rintro m l pre T x W hl0 ⟨r, hrr⟩ hTl hI _ hpre
    have hlen : pre.length < B.length := by
      have := hpre.length_le
      rw [sortM_len] at this
      simp at this
      omega
    obtain ⟨⟨sv, g1, g2, g3⟩, g5, g6⟩ := hI
    obtain ⟨ao', c', rfl⟩ := g2.shape
    have hlt := m_lt hrr
    have lob := m_lt g1
    dsimp only [encM]
    gi_wp2
    refine ⟨Fr.alloc _ _ _, fun W2 f2 => ?_⟩
    have hs2 : W.heap.size + 1 ≤ W2.heap.size := by have := f2.size; rw [World.size_alloc] at this; exact this
    have v0 := (f2.block W.heap.size (by rw [World.size_alloc]; omega) (by omega)).trans (heap_alloc_new _ _)
    have o0 := (f2.block bp (by rw [World.size_alloc]; omega) (fun e => hTl (e ▸ g5))).trans ((Below.heap_alloc _ _ _ lob).trans g1)
    have r0 := (g2.alloc (.cells #[.int .i64 x.f, .int .i64 x.t, .int .i64 x.a, .int .i64 x.v] 67)).fr f2 (fun k hk e => hTl (e ▸ (g3 k hk).1))
    have f0 : Fr w0 W2 (fun k => k = bp ∨ k = br ∨ w0.heap.size ≤ k) := (g6.trans (Fr.alloc W _ (fun _ => False)) (fun _ _ h => h.elim)).trans f2 (fun k _ e => .inr (.inr (by omega)))
    obtain ⟨q0, q1, q2, q3⟩ := m_cells v0
    obtain ⟨p0, p1⟩ := bx_one o0
    have HR0 : Hid _ := r0.alloc (.cells #[.int .i64 x.f, .int .i64 x.t, .int .i64 x.a, .int .i64 x.v] 67)
    have HO0 : Hid _ := o0
    have HF0 : Hid _ := f0
    clear r0 o0 v0 f2 hC0 hM hBs f0 g6
    gi_wp2_with (gi_at_builtin; refine wpListIn_append_own_at _ rfl _ _ 58 rfl 0 67 i0 (.agg #[.int .i64 0, .int .i64 0, .int .i64 0, .int .i64 0]) 4 32 Try.underlying58 hi hz0 hz1 hz2 rfl (by decide) _ _ _ rfl HR0.out ⟨W2.heap.size, 0, none⟩ 1 1 (msgCells x) rfl rfl (m_four (heap_alloc_new _ _)) (msgOne x) (by unfold maxLen; omega) (by omega) (Nat.zero_le _) ?_; intro v' w4 hown hgrow _ hat; have o4 := ((Fr.grown (S := fun k => (Value.slice ao' pre.length c').ownBlock = some k) hgrow (fun k hk => hk)).block _ (by rw [World.size_alloc]; have := m_lt HO0.out; omega) (fun hk => (g3 _ hk).2.1 rfl)).trans ((Below.heap_alloc W2 _ _ (m_lt HO0.out)).trans HO0.out); obtain ⟨p4, p5⟩ := bx_one o4; obtain ⟨ao2, m2, c2, rfl⟩ := own_anyM hown)
    exact CP.push HO0.out g3 g5 HF0.out (m_lt HO0.out) hown hgrow hat
  case done =>
    rintro D xs T W hD rfl hI hTD hK
    exact HH.out W D T hI hD hTD hK
set_option maxRecDepth 100000 in
set_option maxHeartbeats 4000000 in
theorem ord_range2 {w0 : World} {O : Nat → Prop} {N Bs bp br : Nat} {B : List Msg} {mv : Value} {ds : List Deferred} {x0 x1 x2 x3 x4 x5 x6 x7 x8 x9 x11 x12 x13 x14 x15 x16 x17 x18 x19 x20 x21 x22 x23 x24 x25 x26 x27 x28 x29 x30 x31 x32 x33 x34 x35 x36 x37 x38 x39 x40 x41 x42 x43 x44 x45 x46 x47 x48 x49 x50 x51 x52 x53 x54 x56 x57 x58 x59 x60 x61 x62 x63 x64 x65 x66 x67 x68 x69 x70 x71 x72 x73 x74 x75 x76 x77 x78 x79 x80 x81 x82 x83 x84 x85 x86 x87 x88 x89 x90 x91 x92 x93 x94 x95 x96 x97 x98 x99 x100 x101 x102 : Value} {K : Act → World → Prop} {Q' : Exit → Act → World → Prop}
    (hM : MH w0 O N B mv) (hO : ∀ k, O k → k < w0.heap.size) (hBs : w0.cell? ⟨Bs, 0, none⟩ = some mv) (hB : B.length * 32 ≤ 140737488355328) (hok : ∀ m ∈ B, m.ok)
    (hp : w0.heap[bp]? = some (.cells #[.slice (some ⟨br, 0, none⟩) 0 0] 58 (0, 0))) (hr : w0.heap[br]? = some (.cells #[] 67 (0, 0))) (hpO : ¬ O bp) (hrO : ¬ O br)
    (HC : ∀ (wx : World) (D : Nat) (T : Nat → Prop), CP w0 wx bp br (sortM B) T → w0.heap.size ≤ D → ¬ T D → wx.heap[D]? = some (.deferred (some [])) → K ⟨(List.toArray (x0 :: x1 :: x2 :: x3 :: x4 :: x5 :: x6 :: x7 :: x8 :: x9 :: (.pointer (some ⟨bp, 0, none⟩)) :: x11 :: x12 :: x13 :: x14 :: x15 :: x16 :: x17 :: x18 :: x19 :: x20 :: x21 :: x22 :: x23 :: x24 :: x25 :: x26 :: x27 :: x28 :: x29 :: x30 :: x31 :: x32 :: x33 :: x34 :: x35 :: x36 :: x37 :: x38 :: x39 :: x40 :: x41 :: x42 :: x43 :: x44 :: x45 :: x46 :: x47 :: x48 :: x49 :: x50 :: x51 :: x52 :: x53 :: x54 :: (.func (.func 61) #[] #[.pointer (some ⟨Bs, 0, none⟩)]) :: x56 :: x57 :: x58 :: x59 :: x60 :: x61 :: x62 :: x63 :: x64 :: x65 :: x66 :: x67 :: x68 :: x69 :: x70 :: x71 :: x72 :: x73 :: x74 :: x75 :: x76 :: x77 :: x78 :: x79 :: x80 :: x81 :: x82 :: x83 :: x84 :: x85 :: x86 :: x87 :: x88 :: x89 :: x90 :: x91 :: x92 :: x93 :: x94 :: x95 :: x96 :: x97 :: x98 :: x99 :: x100 :: x101 :: x102 :: [])), { target := .collected D, args := #[] } :: ds⟩ wx) :
    Code.wp Try.prog ((Try.f7.body.bind (inBlkC 4)).getD .skip) (Exit.inBlock 4 (Exit.then K Q')) ⟨(List.toArray (x0 :: x1 :: x2 :: x3 :: x4 :: x5 :: x6 :: x7 :: x8 :: x9 :: (.pointer (some ⟨bp, 0, none⟩)) :: x11 :: x12 :: x13 :: x14 :: x15 :: x16 :: x17 :: x18 :: x19 :: x20 :: x21 :: x22 :: x23 :: x24 :: x25 :: x26 :: x27 :: x28 :: x29 :: x30 :: x31 :: x32 :: x33 :: x34 :: x35 :: x36 :: x37 :: x38 :: x39 :: x40 :: x41 :: x42 :: x43 :: x44 :: x45 :: x46 :: x47 :: x48 :: x49 :: x50 :: x51 :: x52 :: x53 :: x54 :: (.func (.func 61) #[] #[.pointer (some ⟨Bs, 0, none⟩)]) :: x56 :: x57 :: x58 :: x59 :: x60 :: x61 :: x62 :: x63 :: x64 :: x65 :: x66 :: x67 :: x68 :: x69 :: x70 :: x71 :: x72 :: x73 :: x74 :: x75 :: x76 :: x77 :: x78 :: x79 :: x80 :: x81 :: x82 :: x83 :: x84 :: x85 :: x86 :: x87 :: x88 :: x89 :: x90 :: x91 :: x92 :: x93 :: x94 :: x95 :: x96 :: x97 :: x98 :: x99 :: x100 :: x101 :: x102 :: [])), ds⟩ w0 := by
  obtain ⟨i0, hi, hz0, hz1, hz2⟩ := info_parts infoMsg
  conv => arg 2; whnf
  have HH : Hid _ := HC
  have hbr := m_lt hr
  have hbp := m_lt hp
  have hne : br ≠ bp := fun e => by subst e; rw [hp] at hr; cases hr
  have hC0 : CP w0 w0 bp br [] (fun k => k = bp ∨ k = br) := ⟨⟨_, hp, ⟨by simp, Or.inr ⟨br, 0, #[], rfl, Nat.zero_le _, hr, Nat.le_refl _, by unfold maxLen; omega, by simp, by simp⟩⟩, fun k hk => by
    simp only [Value.ownBlock, Option.some.injEq] at hk
    subst hk
    exact ⟨Or.inr rfl, hne, Or.inl rfl⟩⟩, Or.inl rfl, Fr.refl _ _⟩
  clear HC
  refine (wpIn_wide (n := 9)).1 ?_
  refine wpIn_rangeT (lb := #[.pointer (some ⟨Bs, 0, none⟩)]) (gf := 61) rfl (enters_of Try.func61 (by kernel_rfl) rfl)
    (all_T hM hO hBs hB hok) (Below.refl _ _) (fun _ => rfl)
    (fun pre T W => CP w0 W bp br pre T) (fun _ _ _ _ => False) CP.stands (fun _ _ _ _ _ h _ => h.elim) (fun k => k = bp ∨ k = br) (fun k hk => hk.elim (fun e => by subst e; exact ⟨hbp, hpO⟩) (fun e => by subst e; exact ⟨hbr, hrO⟩)) hC0 ?round ?done (fun _ _ _ _ _ _ _ h => h.elim)
  case round =>
    rintro m l pre T x W hl0 ⟨r, hrr⟩ hTl hI _ hpre
    have hlen : pre.length < B.length := by
      have := hpre.length_le
      rw [sortM_len] at this
      simp at this
      omega
    obtain ⟨⟨sv, g1, g2, g3⟩, g5, g6⟩ := hI
    obtain ⟨ao', c', rfl⟩ := g2.shape
    have hlt := m_lt hrr
    have lob := m_lt g1
    dsimp only [encM]
    gi_wp2
    refine ⟨Fr.alloc _ _ _, fun W2 f2 => ?_⟩
    have hs2 : W.heap.size + 1 ≤ W2.heap.size := by have := f2.size; rw [World.size_alloc] at this; exact this
    have v0 := (f2.block W.heap.size (by rw [World.size_alloc]; omega) (by omega)).trans (heap_alloc_new _ _)
    have o0 := (f2.block bp (by rw [World.size_alloc]; omega) (fun e => hTl (e ▸ g5))).trans ((Below.heap_alloc _ _ _ lob).trans g1)
    have r0 := (g2.alloc (.cells #[.int .i64 x.f, .int .i64 x.t, .int .i64 x.a, .int .i64 x.v] 67)).fr f2 (fun k hk e => hTl (e ▸ (g3 k hk).1))
    have f0 : Fr w0 W2 (fun k => k = bp ∨ k = br ∨ w0.heap.size ≤ k) := (g6.trans (Fr.alloc W _ (fun _ => False)) (fun _ _ h => h.elim)).trans f2 (fun k _ e => .inr (.inr (by omega)))
    obtain ⟨q0, q1, q2, q3⟩ := m_cells v0
    obtain ⟨p0, p1⟩ := bx_one o0
    have HR0 : Hid _ := r0.alloc (.cells #[.int .i64 x.f, .int .i64 x.t, .int .i64 x.a, .int .i64 x.v] 67)
    have HO0 : Hid _ := o0
    have HF0 : Hid _ := f0
    clear r0 o0 v0 f2 hC0 hM hBs f0 g6
    gi_wp2_with (gi_at_builtin; refine wpListIn_append_own_at _ rfl _ _ 58 rfl 0 67 i0 (.agg #[.int .i64 0, .int .i64 0, .int .i64 0, .int .i64 0]) 4 32 Try.underlying58 hi hz0 hz1 hz2 rfl (by decide) _ _ _ rfl HR0.out ⟨W2.heap.size, 0, none⟩ 1 1 (msgCells x) rfl rfl (m_four (heap_alloc_new _ _)) (msgOne x) (by unfold maxLen; omega) (by omega) (Nat.zero_le _) ?_; intro v' w4 hown hgrow _ hat; have o4 := ((Fr.grown (S := fun k => (Value.slice ao' pre.length c').ownBlock = some k) hgrow (fun k hk => hk)).block _ (by rw [World.size_alloc]; have := m_lt HO0.out; omega) (fun hk => (g3 _ hk).2.1 rfl)).trans ((Below.heap_alloc W2 _ _ (m_lt HO0.out)).trans HO0.out); obtain ⟨p4, p5⟩ := bx_one o4; obtain ⟨ao2, m2, c2, rfl⟩ := own_anyM hown)
    exact CP.push HO0.out g3 g5 HF0.out (m_lt HO0.out) hown hgrow hat
  case done =>
    rintro D xs T W hD rfl hI hTD hK
    exact HH.out W D T hI hD hTD hK
end Go.Proofs.Ytfajkfngjfhkoaa
