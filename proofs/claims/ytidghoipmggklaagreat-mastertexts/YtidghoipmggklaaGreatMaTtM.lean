import Derived.Test.YtidghoipmggklaaGreatMaPjM
section
/- A task, put by a writer. -/
namespace Go.Proofs.YtidghoipmggklaaGreat
open Go.RowKit
attribute [local go_sem] Oper.semAt_some
/-- The bytes of a task. -/
def tsB (N P A : List Int) (kp : Bool) (o : Nat → Option Int) (t : ByteArray) (G : List Vx) (ps : List Int) (st se pa : Nat) : List UInt8 := nmB N ++ (numB P.length ++ nmB P) ++ (numB A.length ++ nmB A) ++ numB kp.toNat ++ putK o 5 ++ jobB t G ps st se pa
/-- What a task has in memory, apart from a writer. -/
structure TkS (w : World) (p : Nat) (v : Value) (g : Nat) (ao bo go po : Option Addr) (P A : List Int) (G : List Vx) (ps : List Int) (C : Array Value) : Prop where
  n1 : NmAt w p v ao P
  n2 : NmAt w p v bo A
  vx : VxAt w (fun k => k ≠ p ∧ v.ownBlock ≠ some k) go G
  is : IsP w (fun k => k ≠ p ∧ v.ownBlock ≠ some k) po ps
  bx : w.heap[g]? = some (.cells C 69 (0, 0))
  gp : g ≠ p ∧ v.ownBlock ≠ some g
theorem TkS.next {w w' : World} {p : Nat} {v v1 : Value} {g : Nat} {ao bo go po : Option Addr} {P A : List Int} {G : List Vx} {ps : List Int} {C : Array Value} (h : TkS w p v g ao bo go po P A G ps C) (f : Fr w w' (fun k => k = p ∨ v.ownBlock = some k)) (hr : Row w v v1) : TkS w' p v1 g ao bo go po P A G ps C := by
  have hk : ∀ k, k < w.heap.size → (k ≠ p ∧ v.ownBlock ≠ some k) → ¬ (k = p ∨ v.ownBlock = some k) ∧ (k ≠ p ∧ v1.ownBlock ≠ some k) := fun k hk hp => by
    refine ⟨by rintro (e | e); exact hp.1 e; exact hp.2 e, hp.1, fun e => ?_⟩
    rcases hr with e1 | ⟨q, e1, hq⟩
    · rw [e1] at e; exact hp.2 e
    · rw [e1] at e; cases e; omega
  have hg := hk g (ma_lt h.bx) h.gp
  exact ⟨h.n1.next f hr, h.n2.next f hr, h.vx.kept f hk, h.is.kept f hk, (f.block g (ma_lt h.bx) hg.1).trans h.bx, hg.2⟩
set_option maxRecDepth 100000 in
set_option maxHeartbeats 4000000 in
theorem puttask_any {w : World} {base p : Nat} {v : Value} {l : List UInt8} {ja je js jp jm jf jg : Int} {kp : Bool} {o : Nat → Option Int} {ao bo go po : Option Addr} {an ac bn bc gn gc pn pc : Nat} {t : ByteArray} {G : List Vx} {ps : List Int} {st se pa : Nat} (P A : List Int) (han : an = P.length) (hbn : bn = A.length) (hgn : gn = G.length) (hpn : pn = ps.length) (h : Wr w base p v l) (h1 : NmAt w p v ao P) (h2 : NmAt w p v bo A) (hG : VxAt w (fun k => k ≠ p ∧ v.ownBlock ≠ some k) go G) (hP : IsP w (fun k => k ≠ p ∧ v.ownBlock ≠ some k) po ps) (ho : OkO o)
    (ht : t.size ≤ 9) (hok : ∀ v ∈ G, v.ok) (hc : chk G = 0) (hpl : ps.length ≤ 4) (hpk : ∀ x ∈ ps, I64 x) (hst : st ≤ 1000) (hse : se ≤ 65536) (hpa : pa ≤ 16) (hx : ∀ x ∈ [ja, je, js, jp, jm, jf, jg], x ≤ 9223372036854775807) (hp1 : ∀ x ∈ P, x ≤ 9223372036854775807) (hp2 : ∀ x ∈ A, x ≤ 9223372036854775807) (hroom : l.length + 70000 + 10 * P.length + 10 * A.length ≤ 140737488355328) :
    Calls Tryz.prog 40 #[.pointer (some ⟨p, 0, none⟩), .agg #[.int .i64 ja, .int .i64 je, .int .i64 js, .int .i64 jp, .slice ao an ac, .slice bo bn bc, .string t, .slice go gn gc, .slice po pn pc, .int .i64 (st : Int), .int .i64 (se : Int), .int .i64 (pa : Int), .bool (oh o 0), .bool (oh o 1), .bool (oh o 2), .bool (oh o 3), .bool (oh o 4), .int .i64 (ov o 0), .int .i64 (ov o 1), .int .i64 (ov o 2), .int .i64 (ov o 3), .int .i64 (ov o 4), .int .i64 jm, .int .i64 jf, .int .i64 jg, .bool kp]] w fun r w' => r = .returned (.tuple #[]) ∧ WTo w w' base p v (l ++ tsB [ja, je, js, jp, jm, jf, jg] P A kp o t G ps st se pa) := by
  obtain ⟨W0, hW0⟩ : ∃ W0, w.alloc (.cells #[.int .i64 ja, .int .i64 je, .int .i64 js, .int .i64 jp, .slice ao an ac, .slice bo bn bc, .string t, .slice go gn gc, .slice po pn pc, .int .i64 (st : Int), .int .i64 (se : Int), .int .i64 (pa : Int), .bool (oh o 0), .bool (oh o 1), .bool (oh o 2), .bool (oh o 3), .bool (oh o 4), .int .i64 (ov o 0), .int .i64 (ov o 1), .int .i64 (ov o 2), .int .i64 (ov o 3), .int .i64 (ov o 4), .int .i64 jm, .int .i64 jf, .int .i64 jg, .bool kp] 69) = W0 := ⟨_, rfl⟩
  obtain ⟨g, hg⟩ : ∃ g, w.heap.size = g := ⟨_, rfl⟩
  have k0 : W0.heap[g]? = some (.cells #[.int .i64 ja, .int .i64 je, .int .i64 js, .int .i64 jp, .slice ao an ac, .slice bo bn bc, .string t, .slice go gn gc, .slice po pn pc, .int .i64 (st : Int), .int .i64 (se : Int), .int .i64 (pa : Int), .bool (oh o 0), .bool (oh o 1), .bool (oh o 2), .bool (oh o 3), .bool (oh o 4), .int .i64 (ov o 0), .int .i64 (ov o 1), .int .i64 (ov o 2), .int .i64 (ov o 3), .int .i64 (ov o 4), .int .i64 jm, .int .i64 jf, .int .i64 jg, .bool kp] 69 (0, 0)) := by rw [← hW0, ← hg]; exact heap_alloc_new _ _
  have hlp := h.lt
  have hZ0 : W0.heap.size = g + 1 := by rw [← hW0, ← hg]; simp
  have HGp : Hid (g ≠ p ∧ v.ownBlock ≠ some g ∧ W0.heap.size ≠ p ∧ v.ownBlock ≠ some W0.heap.size) := ⟨by omega, fun e => by have := h.olt _ e; omega, by omega, fun e => by have := h.olt _ e; omega⟩
  have c0 : W0.cell? ⟨g, 0, none⟩ = some (.int .i64 ja) := by simp [World.cell?, k0]
  have c1 : W0.cell? ⟨g, 1, none⟩ = some (.int .i64 je) := by simp [World.cell?, k0]
  have c2 : W0.cell? ⟨g, 2, none⟩ = some (.int .i64 js) := by simp [World.cell?, k0]
  have c3 : W0.cell? ⟨g, 3, none⟩ = some (.int .i64 jp) := by simp [World.cell?, k0]
  have c22 : W0.cell? ⟨g, 22, none⟩ = some (.int .i64 jm) := by simp [World.cell?, k0]
  have c23 : W0.cell? ⟨g, 23, none⟩ = some (.int .i64 jf) := by simp [World.cell?, k0]
  have c24 : W0.cell? ⟨g, 24, none⟩ = some (.int .i64 jg) := by simp [World.cell?, k0]
  obtain ⟨W1, hW1⟩ : ∃ W1, W0.alloc (.cells #[.int .i64 ja, .int .i64 je, .int .i64 js, .int .i64 jp, .int .i64 jm, .int .i64 jf, .int .i64 jg] 3) = W1 := ⟨_, rfl⟩
  have k1 : W1.heap[W0.heap.size]? = some (.cells #[.int .i64 ja, .int .i64 je, .int .i64 js, .int .i64 jp, .int .i64 jm, .int .i64 jf, .int .i64 jg] 3 (0, 0)) := by rw [← hW1]; exact heap_alloc_new _ _
  have hb1 : Below W0.heap.size W0 W1 := by rw [← hW1]; exact ma_new _ _
  have hb0 : Below w.heap.size w W1 := (show Below w.heap.size w W0 by rw [← hW0]; exact ma_new _ _).trans (hb1.mono (by omega))
  have hwr1 : Wr W1 base p v l := by rw [← hW1, ← hW0]; exact (h.al _).al _
  have HT : Hid (∀ w' l', WTo W1 w' base p v l' → WTo w w' base p v l') := fun w' l' h' => by rw [← hW1, ← hW0] at h'; exact h'.fromAlloc.fromAlloc
  have hNew : ∀ {ao : Option Addr} {L : List Int}, NmAt w p v ao L → NmAt W1 p v ao L := fun h h0 => by
    obtain ⟨b, off, e, q1, q2, q3⟩ := h h0
    exact ⟨b, off, e, q1, q2, fun j hj => (hb0.cell (ma_ltc (q3 j hj))).trans (q3 j hj)⟩
  have HS1 : Hid (TkS W1 p v g ao bo go po P A G ps #[.int .i64 ja, .int .i64 je, .int .i64 js, .int .i64 jp, .slice ao an ac, .slice bo bn bc, .string t, .slice go gn gc, .slice po pn pc, .int .i64 (st : Int), .int .i64 (se : Int), .int .i64 (pa : Int), .bool (oh o 0), .bool (oh o 1), .bool (oh o 2), .bool (oh o 3), .bool (oh o 4), .int .i64 (ov o 0), .int .i64 (ov o 1), .int .i64 (ov o 2), .int .i64 (ov o 3), .int .i64 (ov o 4), .int .i64 jm, .int .i64 jf, .int .i64 jg, .bool kp]) := ⟨hNew h1, hNew h2, hG.new hb0, hP.new hb0, (hb1.block g (ma_lt k0)).trans k0, HGp.out.1, HGp.out.2.1⟩
  have hNm : NmAt W1 p v (some ⟨W0.heap.size, 0, none⟩) [ja, je, js, jp, jm, jf, jg] := fun _ => ⟨_, 0, rfl, HGp.out.2.2.1, HGp.out.2.2.2, fun j hj => by
    match j, hj with
    | 0, _ => simp [World.cell?, k1]
    | 1, _ => simp [World.cell?, k1]
    | 2, _ => simp [World.cell?, k1]
    | 3, _ => simp [World.cell?, k1]
    | 4, _ => simp [World.cell?, k1]
    | 5, _ => simp [World.cell?, k1]
    | 6, _ => simp [World.cell?, k1]⟩
  have hPn := putnums_any (n := 7) (cap := 7) [ja, je, js, jp, jm, jf, jg] rfl hwr1 hNm hx (by simp; omega)
  have HA : Hid (an = P.length ∧ bn = A.length ∧ gn = G.length ∧ pn = ps.length) := ⟨han, hbn, hgn, hpn⟩
  have HO : Hid (OkO o) := ho
  have HJ : Hid (t.size ≤ 9 ∧ (∀ v ∈ G, v.ok) ∧ chk G = 0 ∧ ps.length ≤ 4 ∧ (∀ x ∈ ps, I64 x) ∧ st ≤ 1000 ∧ se ≤ 65536 ∧ pa ≤ 16) := ⟨ht, hok, hc, hpl, hpk, hst, hse, hpa⟩
  have HX : Hid ((∀ x ∈ P, x ≤ 9223372036854775807) ∧ (∀ x ∈ A, x ≤ 9223372036854775807)) := ⟨hp1, hp2⟩
  have HRm : Hid (l.length + 70000 + 10 * P.length + 10 * A.length ≤ 140737488355328 ∧ (nmB [ja, je, js, jp, jm, jf, jg]).length ≤ 70 ∧ (nmB P).length ≤ 10 * P.length ∧ (nmB A).length ≤ 10 * A.length ∧ (numB P.length).length ≤ 10 ∧ (numB A.length).length ≤ 10 ∧ (numB kp.toNat).length ≤ 10 ∧ (putK o 5).length ≤ 55) :=
    ⟨hroom, nm_len _ hx, nm_len P hp1, nm_len A hp2, numB_len10 (by omega), numB_len10 (by omega), numB_len10 (by cases kp <;> decide), putK_len ho 5⟩
  clear h h1 h2 hG hP k0 k1 hb1 hb0 hwr1 hNm hNew hlp hZ0 han hbn hgn hpn ho ht hok hc hpl hpk hst hse hpa hx hp1 hp2 hroom
  go_enter Tryz.func40, Tryz.ntmps40
  go_upto_region 2 with (go_at_call 91; refine hPn.mono ?_; rintro r w2 ⟨rfl, hT2⟩)
  clear hPn c0 c1 c2 c3 c22 c23 c24 hW0 hW1 hg
  obtain ⟨v2, hw2, hf2, hr2⟩ := hT2
  have HS2 : Hid (TkS w2 p v2 g ao bo go po P A G ps #[.int .i64 ja, .int .i64 je, .int .i64 js, .int .i64 jp, .slice ao an ac, .slice bo bn bc, .string t, .slice go gn gc, .slice po pn pc, .int .i64 (st : Int), .int .i64 (se : Int), .int .i64 (pa : Int), .bool (oh o 0), .bool (oh o 1), .bool (oh o 2), .bool (oh o 3), .bool (oh o 4), .int .i64 (ov o 0), .int .i64 (ov o 1), .int .i64 (ov o 2), .int .i64 (ov o 3), .int .i64 (ov o 4), .int .i64 jm, .int .i64 jf, .int .i64 jg, .bool kp]) := HS1.out.next hf2 hr2
  have HF2 : Hid (Fr W1 w2 (fun k => k = p ∨ v.ownBlock = some k)) := hf2
  have HR2 : Hid (Row W1 v v2) := hr2
  have c4 : w2.cell? ⟨g, 4, none⟩ = some (.slice ao an ac) := by simp [World.cell?, HS2.out.bx]
  have hP3 := putlist_any (cap := ac) P HA.out.1 hw2 HS2.out.n1 HX.out.1 (by obtain ⟨q1, q2, q3, q4, q5, q6, q7, q8⟩ := HRm.out; simp only [List.length_append]; omega)
  clear hw2 hf2 hr2
  go_upto_region 3 with (go_at_call 96; refine hP3.mono ?_; rintro r w3 ⟨rfl, hT3⟩)
  clear hP3 c4
  obtain ⟨v3, hw3, hf3, hr3⟩ := hT3
  have HS3 : Hid (TkS w3 p v3 g ao bo go po P A G ps #[.int .i64 ja, .int .i64 je, .int .i64 js, .int .i64 jp, .slice ao an ac, .slice bo bn bc, .string t, .slice go gn gc, .slice po pn pc, .int .i64 (st : Int), .int .i64 (se : Int), .int .i64 (pa : Int), .bool (oh o 0), .bool (oh o 1), .bool (oh o 2), .bool (oh o 3), .bool (oh o 4), .int .i64 (ov o 0), .int .i64 (ov o 1), .int .i64 (ov o 2), .int .i64 (ov o 3), .int .i64 (ov o 4), .int .i64 jm, .int .i64 jf, .int .i64 jg, .bool kp]) := HS2.out.next hf3 hr3
  have HF3 : Hid (Fr w2 w3 (fun k => k = p ∨ v2.ownBlock = some k)) := hf3
  have HR3 : Hid (Row w2 v2 v3) := hr3
  have c5 : w3.cell? ⟨g, 5, none⟩ = some (.slice bo bn bc) := by simp [World.cell?, HS3.out.bx]
  have hP4 := putlist_any (cap := bc) A HA.out.2.1 hw3 HS3.out.n2 HX.out.2 (by obtain ⟨q1, q2, q3, q4, q5, q6, q7, q8⟩ := HRm.out; rw [HA.out.1]; simp only [List.length_append]; omega)
  clear hw3 hf3 hr3
  go_upto_region 4 with (go_at_call 96; refine hP4.mono ?_; rintro r w4 ⟨rfl, hT4⟩)
  clear hP4 c5
  obtain ⟨v4, hw4, hf4, hr4⟩ := hT4
  have HS4 : Hid (TkS w4 p v4 g ao bo go po P A G ps #[.int .i64 ja, .int .i64 je, .int .i64 js, .int .i64 jp, .slice ao an ac, .slice bo bn bc, .string t, .slice go gn gc, .slice po pn pc, .int .i64 (st : Int), .int .i64 (se : Int), .int .i64 (pa : Int), .bool (oh o 0), .bool (oh o 1), .bool (oh o 2), .bool (oh o 3), .bool (oh o 4), .int .i64 (ov o 0), .int .i64 (ov o 1), .int .i64 (ov o 2), .int .i64 (ov o 3), .int .i64 (ov o 4), .int .i64 jm, .int .i64 jf, .int .i64 jg, .bool kp]) := HS3.out.next hf4 hr4
  have HF4 : Hid (Fr w3 w4 (fun k => k = p ∨ v3.ownBlock = some k)) := hf4
  have HR4 : Hid (Row w3 v3 v4) := hr4
  have c25 : w4.cell? ⟨g, 25, none⟩ = some (.bool kp) := by simp [World.cell?, HS4.out.bx]
  have hP5 := wbool_w kp (WTo.refl hw4) (by obtain ⟨q1, q2, q3, q4, q5, q6, q7, q8⟩ := HRm.out; rw [HA.out.1, HA.out.2.1]; simp only [List.length_append]; omega)
  clear hw4 hf4 hr4
  go_upto_region 5 with (go_at_call 97; refine hP5.mono ?_; rintro r w5 ⟨rfl, hT5⟩)
  clear hP5 c25
  obtain ⟨v5, hw5, hf5, hr5⟩ := hT5
  have HS5 : Hid (TkS w5 p v5 g ao bo go po P A G ps #[.int .i64 ja, .int .i64 je, .int .i64 js, .int .i64 jp, .slice ao an ac, .slice bo bn bc, .string t, .slice go gn gc, .slice po pn pc, .int .i64 (st : Int), .int .i64 (se : Int), .int .i64 (pa : Int), .bool (oh o 0), .bool (oh o 1), .bool (oh o 2), .bool (oh o 3), .bool (oh o 4), .int .i64 (ov o 0), .int .i64 (ov o 1), .int .i64 (ov o 2), .int .i64 (ov o 3), .int .i64 (ov o 4), .int .i64 jm, .int .i64 jf, .int .i64 jg, .bool kp]) := HS4.out.next hf5 hr5
  have HF5 : Hid (Fr w4 w5 (fun k => k = p ∨ v4.ownBlock = some k)) := hf5
  have HR5 : Hid (Row w4 v4 v5) := hr5
  have HM5 : Hid (w5.rangeAt g 12 [.bool (oh o 0), .bool (oh o 1), .bool (oh o 2), .bool (oh o 3), .bool (oh o 4), .int .i64 (ov o 0), .int .i64 (ov o 1), .int .i64 (ov o 2), .int .i64 (ov o 3), .int .i64 (ov o 4)]) := by
    have := World.rangeAt_of_block HS5.out.bx 12 10
    show World.rangeAt _ _ _ _
    simpa using this
  have hP6 := aput_any o hw5 HO.out (by obtain ⟨q1, q2, q3, q4, q5, q6, q7, q8⟩ := HRm.out; rw [HA.out.1, HA.out.2.1]; simp only [List.length_append]; omega)
  clear hw5 hf5 hr5
  go_upto_region 6 with (first
    | (refine wpList_load_mid rfl 54 _ rfl g 12 rfl [.bool (oh o 0), .bool (oh o 1), .bool (oh o 2), .bool (oh o 3), .bool (oh o 4), .int .i64 (ov o 0), .int .i64 (ov o 1), .int .i64 (ov o 2), .int .i64 (ov o 3), .int .i64 (ov o 4)] _ HM5.out Tryz.underlying54 rfl size_ag ?_)
    | (go_at_call 92; refine hP6.mono ?_; rintro r w6 ⟨rfl, hT6⟩))
  clear hP6
  obtain ⟨v6, hw6, hf6, hr6⟩ := hT6
  have HS6 : Hid (TkS w6 p v6 g ao bo go po P A G ps #[.int .i64 ja, .int .i64 je, .int .i64 js, .int .i64 jp, .slice ao an ac, .slice bo bn bc, .string t, .slice go gn gc, .slice po pn pc, .int .i64 (st : Int), .int .i64 (se : Int), .int .i64 (pa : Int), .bool (oh o 0), .bool (oh o 1), .bool (oh o 2), .bool (oh o 3), .bool (oh o 4), .int .i64 (ov o 0), .int .i64 (ov o 1), .int .i64 (ov o 2), .int .i64 (ov o 3), .int .i64 (ov o 4), .int .i64 jm, .int .i64 jf, .int .i64 jg, .bool kp]) := HS5.out.next hf6 hr6
  have HF6 : Hid (Fr w5 w6 (fun k => k = p ∨ v5.ownBlock = some k)) := hf6
  have HR6 : Hid (Row w5 v5 v6) := hr6
  have HM6 : Hid (w6.rangeAt g 6 [.string t, .slice go gn gc, .slice po pn pc, .int .i64 (st : Int), .int .i64 (se : Int), .int .i64 (pa : Int)]) := by
    have := World.rangeAt_of_block HS6.out.bx 6 6
    show World.rangeAt _ _ _ _
    simpa using this
  have hP7 := putj_at (gc := gc) (pc := pc) (t := t) (st := st) (se := se) (pa := pa) HA.out.2.2.1 HA.out.2.2.2 hw6 HS6.out.vx HS6.out.is (by obtain ⟨q1, q2, q3, q4, q5, q6, q7, q8⟩ := HRm.out; rw [HA.out.1, HA.out.2.1]; simp only [List.length_append]; omega) HJ.out.1 HJ.out.2.1 HJ.out.2.2.1 HJ.out.2.2.2.1 HJ.out.2.2.2.2.1 HJ.out.2.2.2.2.2.1 HJ.out.2.2.2.2.2.2.1 HJ.out.2.2.2.2.2.2.2
  clear hw6 hf6 hr6
  go_wp2_with (first
    | (refine wpList_load_mid rfl 27 _ rfl g 6 rfl [.string t, .slice go gn gc, .slice po pn pc, .int .i64 (st : Int), .int .i64 (se : Int), .int .i64 (pa : Int)] _ HM6.out Tryz.underlying27 rfl size_jobJ ?_)
    | (go_at_call 14; refine hP7.mono ?_; rintro r w7 ⟨rfl, hT7⟩))
  go_end0
  refine ⟨rfl, HT.out _ _ (WTo.then HF2.out HR2.out (WTo.then HF3.out HR3.out (WTo.then HF4.out HR4.out (WTo.then HF5.out HR5.out (WTo.then HF6.out HR6.out ?_)))))⟩
  rw [HA.out.1, HA.out.2.1] at hT7
  unfold tsB
  simpa only [List.append_assoc] using hT7
end Go.Proofs.YtidghoipmggklaaGreat
end

section
/- A task, off a reader. -/
namespace Go.Proofs.YtidghoipmggklaaGreat
open Go.RowKit
attribute [local go_sem] Oper.semAt_some
/-- What is read of a task. -/
structure TsR (s : ByteArray) (a : Nat) (e : Int) (x0 x1 x2 x3 x4 x5 x6 a1 a2 a3 a4 a5 a6 a7 : Nat) (e1 e2 e3 e4 e5 e6 e7 : Int) (n1 b1 : Nat) (f1 : Int) (P : List Int) (b2 : Nat) (f2 : Int) (n2 b3 : Nat) (f3 : Int) (A : List Int) (b4 : Nat) (f4 : Int) (kp : Bool) (b5 : Nat) (f5 : Int) (o : Nat → Option Int) (b6 : Nat) (f6 : Int) (t : ByteArray) (G : List Vx) (nn : Nat) (ps : List Int) (st se pa j1 j2 j3 j4 j5 j6 j7 : Nat) (g1 g2 g3 g4 g5 g6 g7 ee : Int) : Prop where
  h0 : rdCount s a e 2147483647 = (x0, a1, e1)
  h1 : rdCount s a1 e1 2147483647 = (x1, a2, e2)
  h2 : rdCount s a2 e2 2147483647 = (x2, a3, e3)
  h3 : rdCount s a3 e3 2147483647 = (x3, a4, e4)
  h4 : rdCount s a4 e4 2147483647 = (x4, a5, e5)
  h5 : rdCount s a5 e5 2147483647 = (x5, a6, e6)
  h6 : rdCount s a6 e6 2147483647 = (x6, a7, e7)
  hc1 : rdCount s a7 e7 16 = (n1, b1, f1)
  hl1 : rdNs s n1 b1 f1 [] = (P, b2, f2)
  hc2 : rdCount s b2 f2 16 = (n2, b3, f3)
  hl2 : rdNs s n2 b3 f3 [] = (A, b4, f4)
  hb : rdBool s b4 f4 = (kp, b5, f5)
  ho : takeO s b5 f5 = o
  hk : (tk s b5 f5 5).2 = (b6, f6)
  hj : JR s b6 f6 t G nn ps st se pa j1 j2 j3 j4 j5 j6 j7 g1 g2 g3 g4 g5 g6 g7
  he : jErr g7 t G ps st se pa = ee
theorem rdNs_to {s : ByteArray} : ∀ (n a : Nat) (e : Int) (L : List Int), a ≤ s.size → (rdNs s n a e L).2.1 ≤ s.size
  | 0, _, _, _, h => h
  | n + 1, _, _, _, h => rdNs_to n _ _ _ (rdCount_to (most := 2147483647) h rfl).1
theorem size_tskT : (Tryz.prog.info? 69).map (·.size) = some 26 := by kernel_rfl
theorem mid_putA (x0 x1 x2 x3 x4 x5 x6 x7 x8 x9 x10 x11 x12 x13 x14 x15 x16 x17 x18 x19 x20 x21 x22 x23 x24 x25 y12 y13 y14 y15 y16 y17 y18 y19 y20 y21 : Value) : putC #[x0, x1, x2, x3, x4, x5, x6, x7, x8, x9, x10, x11, x12, x13, x14, x15, x16, x17, x18, x19, x20, x21, x22, x23, x24, x25] 12 [y12, y13, y14, y15, y16, y17, y18, y19, y20, y21] = #[x0, x1, x2, x3, x4, x5, x6, x7, x8, x9, x10, x11, y12, y13, y14, y15, y16, y17, y18, y19, y20, y21, x22, x23, x24, x25] := by
  simp only [putC, List.setIfInBounds_toArray, List.set_cons_succ, List.set_cons_zero]
theorem mid_putJ (x0 x1 x2 x3 x4 x5 x6 x7 x8 x9 x10 x11 x12 x13 x14 x15 x16 x17 x18 x19 x20 x21 x22 x23 x24 x25 y6 y7 y8 y9 y10 y11 : Value) : putC #[x0, x1, x2, x3, x4, x5, x6, x7, x8, x9, x10, x11, x12, x13, x14, x15, x16, x17, x18, x19, x20, x21, x22, x23, x24, x25] 6 [y6, y7, y8, y9, y10, y11] = #[x0, x1, x2, x3, x4, x5, y6, y7, y8, y9, y10, y11, x12, x13, x14, x15, x16, x17, x18, x19, x20, x21, x22, x23, x24, x25] := by
  simp only [putC, List.setIfInBounds_toArray, List.set_cons_succ, List.set_cons_zero]
/-- A round of reading a task into its box. -/
structure TtI (w W : World) (p : Nat) (s : ByteArray) (a : Nat) (e : Int) (gr gx : Nat) (C : Array Value) : Prop where
  rd : Rd W p s a e
  fr : Fr w W (fun k => k = p)
  bx : W.heap[gx]? = some (.cells C 69 (0, 0))
  br : W.heap[gr]? = some (.cells #[.int .i64 0, .int .i64 0, .int .i64 0, .int .i64 0, .slice none 0 0, .slice none 0 0, .string ⟨#[]⟩, .slice none 0 0, .slice none 0 0, .int .i64 0, .int .i64 0, .int .i64 0, .bool false, .bool false, .bool false, .bool false, .bool false, .int .i64 0, .int .i64 0, .int .i64 0, .int .i64 0, .int .i64 0, .int .i64 0, .int .i64 0, .int .i64 0, .bool false] 69 (0, 0))
  ap : gx ≠ p ∧ gr ≠ p ∧ gr ≠ gx ∧ w.heap.size ≤ gx ∧ w.heap.size ≤ gr
theorem TtI.call {w W W' : World} {p : Nat} {s : ByteArray} {a a' : Nat} {e e' : Int} {gr gx : Nat} {C : Array Value} (h : TtI w W p s a e gr gx C) (hr : Rd W' p s a' e') (f : Fr W W' (fun k => k = p)) : TtI w W' p s a' e' gr gx C :=
  ⟨hr, h.fr.trans f (fun _ _ h => h), (f.block gx (ma_lt h.bx) h.ap.1).trans h.bx, (f.block gr (ma_lt h.br) h.ap.2.1).trans h.br, h.ap⟩
theorem TtI.write {w W W' : World} {p : Nat} {s : ByteArray} {a : Nat} {e : Int} {gr gx : Nat} {C C' : Array Value} (h : TtI w W p s a e gr gx C) (f : Fr W W' (fun k => k = gx)) (hb : W'.heap[gx]? = some (.cells C' 69 (0, 0))) : TtI w W' p s a e gr gx C' :=
  ⟨h.rd.kept f (fun e => h.ap.1 e.symm), h.fr.trans f (fun k hk e => by have := h.ap.2.2.2.1; omega), hb, (f.block gr (ma_lt h.br) h.ap.2.2.1).trans h.br, h.ap⟩
theorem TtI.fz {w W : World} {p : Nat} {s : ByteArray} {a : Nat} {e : Int} {gr gx : Nat} {C : Array Value} (h : TtI w W p s a e gr gx C) (i : Nat) : W.frozen? ⟨gx, i, none⟩ = false := by simp [World.frozen?, h.bx]
/-- A list of one's own, that lies apart from a reader and two boxes. -/
structure OwL (w W : World) (p gr gx : Nat) (v : Value) (L : List Int) : Prop where
  own : IO_ W w.heap.size v L
  ap : ∀ k, v.ownBlock = some k → k ≠ p ∧ k ≠ gr ∧ k ≠ gx
theorem OwL.kept {w W W' : World} {p gr gx : Nat} {v : Value} {L : List Int} (h : OwL w W p gr gx v L) {S : Nat → Prop} (f : Fr W W' S) (hs : ∀ k, S k → k = p ∨ k = gr ∨ k = gx) : OwL w W' p gr gx v L :=
  ⟨GO.kept h.own f (fun k hk e => by have h1 := h.ap k hk; exact (hs k e).elim h1.1 (fun e => e.elim h1.2.1 h1.2.2)), h.ap⟩
set_option maxRecDepth 100000 in
set_option maxHeartbeats 8000000 in
theorem taketask_any {w : World} {p : Nat} {s : ByteArray} {a : Nat} {e : Int} {x0 x1 x2 x3 x4 x5 x6 a1 a2 a3 a4 a5 a6 a7 : Nat} {e1 e2 e3 e4 e5 e6 e7 : Int} {n1 b1 : Nat} {f1 : Int} {P : List Int} {b2 : Nat} {f2 : Int} {n2 b3 : Nat} {f3 : Int} {A : List Int} {b4 : Nat} {f4 : Int} {kp : Bool} {b5 : Nat} {f5 : Int} {o : Nat → Option Int} {b6 : Nat} {f6 : Int} {t : ByteArray} {G : List Vx} {nn : Nat} {ps : List Int} {st se pa j1 j2 j3 j4 j5 j6 j7 : Nat} {g1 g2 g3 g4 g5 g6 g7 ee : Int} (h : Rd w p s a e) (hs : s.size ≤ maxLen) (ha : a ≤ s.size) (hR : TsR s a e x0 x1 x2 x3 x4 x5 x6 a1 a2 a3 a4 a5 a6 a7 e1 e2 e3 e4 e5 e6 e7 n1 b1 f1 P b2 f2 n2 b3 f3 A b4 f4 kp b5 f5 o b6 f6 t G nn ps st se pa j1 j2 j3 j4 j5 j6 j7 g1 g2 g3 g4 g5 g6 g7 ee) :
    Calls Tryz.prog 41 #[.pointer (some ⟨p, 0, none⟩)] w fun r w' => ((ee = 0 ∧ ∃ v1 v2 go gc po pc, r = .returned (.agg #[.int .i64 (x0 : Nat), .int .i64 (x1 : Nat), .int .i64 (x2 : Nat), .int .i64 (x3 : Nat), v1, v2, .string t, .slice go G.length gc, .slice po ps.length pc, .int .i64 (st : Int), .int .i64 (se : Int), .int .i64 (pa : Int), .bool (oh o 0), .bool (oh o 1), .bool (oh o 2), .bool (oh o 3), .bool (oh o 4), .int .i64 (ov o 0), .int .i64 (ov o 1), .int .i64 (ov o 2), .int .i64 (ov o 3), .int .i64 (ov o 4), .int .i64 (x4 : Nat), .int .i64 (x5 : Nat), .int .i64 (x6 : Nat), .bool kp]) ∧ IO_ w' w.heap.size v1 P ∧ IO_ w' w.heap.size v2 A ∧ VxAt w' (fun k => w.heap.size ≤ k) go G ∧ IsP w' (fun k => w.heap.size ≤ k) po ps) ∨ (ee ≠ 0 ∧ r = .returned (.agg #[.int .i64 0, .int .i64 0, .int .i64 0, .int .i64 0, .slice none 0 0, .slice none 0 0, .string ⟨#[]⟩, .slice none 0 0, .slice none 0 0, .int .i64 0, .int .i64 0, .int .i64 0, .bool false, .bool false, .bool false, .bool false, .bool false, .int .i64 0, .int .i64 0, .int .i64 0, .int .i64 0, .int .i64 0, .int .i64 0, .int .i64 0, .int .i64 0, .bool false]))) ∧ Rd w' p s j7 ee ∧ Fr w w' (fun k => k = p) := by
  have q1 : a1 ≤ s.size := (rdCount_to (most := 2147483647) ha hR.h0).1
  have q2 : a2 ≤ s.size := (rdCount_to (most := 2147483647) q1 hR.h1).1
  have q3 : a3 ≤ s.size := (rdCount_to (most := 2147483647) q2 hR.h2).1
  have q4 : a4 ≤ s.size := (rdCount_to (most := 2147483647) q3 hR.h3).1
  have q5 : a5 ≤ s.size := (rdCount_to (most := 2147483647) q4 hR.h4).1
  have q6 : a6 ≤ s.size := (rdCount_to (most := 2147483647) q5 hR.h5).1
  have q7 : a7 ≤ s.size := (rdCount_to (most := 2147483647) q6 hR.h6).1
  have z1 : b1 ≤ s.size := (rdCount_to (most := 16) q7 hR.hc1).1
  have z2 : b2 ≤ s.size := by have := rdNs_to n1 b1 f1 [] z1; rw [hR.hl1] at this; exact this
  have z3 : b3 ≤ s.size := (rdCount_to (most := 16) z2 hR.hc2).1
  have z4 : b4 ≤ s.size := by have := rdNs_to n2 b3 f3 [] z3; rw [hR.hl2] at this; exact this
  have z5 : b5 ≤ s.size := rdBool_le z4 hR.hb
  have z6 : b6 ≤ s.size := by have := tk_to (e := f5) z5 5; rw [hR.hk] at this; exact this
  have HBs : Hid (a ≤ s.size ∧ a1 ≤ s.size ∧ a2 ≤ s.size ∧ a3 ≤ s.size ∧ a4 ≤ s.size ∧ a5 ≤ s.size ∧ a6 ≤ s.size ∧ a7 ≤ s.size ∧ b2 ≤ s.size ∧ b4 ≤ s.size ∧ b5 ≤ s.size ∧ b6 ≤ s.size) := ⟨ha, q1, q2, q3, q4, q5, q6, q7, z2, z4, z5, z6⟩
  have HR : Hid (TsR s a e x0 x1 x2 x3 x4 x5 x6 a1 a2 a3 a4 a5 a6 a7 e1 e2 e3 e4 e5 e6 e7 n1 b1 f1 P b2 f2 n2 b3 f3 A b4 f4 kp b5 f5 o b6 f6 t G nn ps st se pa j1 j2 j3 j4 j5 j6 j7 g1 g2 g3 g4 g5 g6 g7 ee) := hR
  have HSz : Hid (s.size ≤ maxLen) := hs
  obtain ⟨W0, hW0⟩ : ∃ W0, w.alloc (.cells #[.int .i64 0, .int .i64 0, .int .i64 0, .int .i64 0, .slice none 0 0, .slice none 0 0, .string ⟨#[]⟩, .slice none 0 0, .slice none 0 0, .int .i64 0, .int .i64 0, .int .i64 0, .bool false, .bool false, .bool false, .bool false, .bool false, .int .i64 0, .int .i64 0, .int .i64 0, .int .i64 0, .int .i64 0, .int .i64 0, .int .i64 0, .int .i64 0, .bool false] 69) = W0 := ⟨_, rfl⟩
  have HK0 : Hid (W0.heap[w.heap.size]? = some (.cells #[.int .i64 0, .int .i64 0, .int .i64 0, .int .i64 0, .slice none 0 0, .slice none 0 0, .string ⟨#[]⟩, .slice none 0 0, .slice none 0 0, .int .i64 0, .int .i64 0, .int .i64 0, .bool false, .bool false, .bool false, .bool false, .bool false, .int .i64 0, .int .i64 0, .int .i64 0, .int .i64 0, .int .i64 0, .int .i64 0, .int .i64 0, .int .i64 0, .bool false] 69 (0, 0))) := by show _ = _; rw [← hW0]; exact heap_alloc_new _ _
  have HB0 : Hid (Below w.heap.size w W0) := by rw [← hW0]; exact ma_new _ _
  have HRd0 : Hid (Rd W0 p s a e) := h.below HB0.out
  have HPl : Hid (p < w.heap.size) := h.lt
  have tk1 : Hid True := trivial
  have hC1 := srd_most HRd0.out HSz.out HBs.out.1 HR.out.h0
  clear h hs ha hR q1 q2 q3 q4 q5 q6 q7 z1 z2 z3 z4 z5 z6
  go_enter Tryz.func41, Tryz.ntmps41
  go_upto_region 1 with (fail)
  clear hW0
  obtain ⟨gr, hgr⟩ : ∃ gr, w.heap.size = gr := ⟨_, rfl⟩
  have HGr : Hid (w.heap.size = gr) := hgr
  have HF0 : Hid (Fr w W0 (fun k => k = p)) := Fr.ofBelow HB0.out _
  rw [hgr] at HK0
  try rw [hgr]
  clear hgr
  go_upto_region 2 with (first
    | (go_at_call 56; have _t := tk1; refine hC1.mono ?_; rintro r w1 ⟨rfl, hw, hf⟩; clear tk1 _t; have HRd1 : Hid (Rd w1 p s a1 e1) := hw; have HF1 : Hid (Fr w w1 (fun k => k = p)) := HF0.out.trans hf (fun _ _ h => h); have HKr1 : Hid (w1.heap[gr]? = some (.cells #[.int .i64 0, .int .i64 0, .int .i64 0, .int .i64 0, .slice none 0 0, .slice none 0 0, .string ⟨#[]⟩, .slice none 0 0, .slice none 0 0, .int .i64 0, .int .i64 0, .int .i64 0, .bool false, .bool false, .bool false, .bool false, .bool false, .int .i64 0, .int .i64 0, .int .i64 0, .int .i64 0, .int .i64 0, .int .i64 0, .int .i64 0, .int .i64 0, .bool false] 69 (0, 0))) := (hf.block gr (ma_lt HK0.out) (by have := HPl.out; have := HGr.out; omega)).trans HK0.out; clear hw hf hC1; have tk2 : Hid True := trivial; have hC2 := srd_most HRd1.out HSz.out HBs.out.2.1 HR.out.h1)
    | (go_at_call 56; have _t := tk2; refine hC2.mono ?_; rintro r w2 ⟨rfl, hw, hf⟩; clear tk2 _t; have HRd2 : Hid (Rd w2 p s a2 e2) := hw; have HF2 : Hid (Fr w w2 (fun k => k = p)) := HF1.out.trans hf (fun _ _ h => h); have HKr2 : Hid (w2.heap[gr]? = some (.cells #[.int .i64 0, .int .i64 0, .int .i64 0, .int .i64 0, .slice none 0 0, .slice none 0 0, .string ⟨#[]⟩, .slice none 0 0, .slice none 0 0, .int .i64 0, .int .i64 0, .int .i64 0, .bool false, .bool false, .bool false, .bool false, .bool false, .int .i64 0, .int .i64 0, .int .i64 0, .int .i64 0, .int .i64 0, .int .i64 0, .int .i64 0, .int .i64 0, .bool false] 69 (0, 0))) := (hf.block gr (ma_lt HKr1.out) (by have := HPl.out; have := HGr.out; omega)).trans HKr1.out; clear hw hf hC2; have tk3 : Hid True := trivial; have hC3 := srd_most HRd2.out HSz.out HBs.out.2.2.1 HR.out.h2)
    | (go_at_call 56; have _t := tk3; refine hC3.mono ?_; rintro r w3 ⟨rfl, hw, hf⟩; clear tk3 _t; have HRd3 : Hid (Rd w3 p s a3 e3) := hw; have HF3 : Hid (Fr w w3 (fun k => k = p)) := HF2.out.trans hf (fun _ _ h => h); have HKr3 : Hid (w3.heap[gr]? = some (.cells #[.int .i64 0, .int .i64 0, .int .i64 0, .int .i64 0, .slice none 0 0, .slice none 0 0, .string ⟨#[]⟩, .slice none 0 0, .slice none 0 0, .int .i64 0, .int .i64 0, .int .i64 0, .bool false, .bool false, .bool false, .bool false, .bool false, .int .i64 0, .int .i64 0, .int .i64 0, .int .i64 0, .int .i64 0, .int .i64 0, .int .i64 0, .int .i64 0, .bool false] 69 (0, 0))) := (hf.block gr (ma_lt HKr2.out) (by have := HPl.out; have := HGr.out; omega)).trans HKr2.out; clear hw hf hC3; have tk4 : Hid True := trivial; have hC4 := srd_most HRd3.out HSz.out HBs.out.2.2.2.1 HR.out.h3)
    | (go_at_call 56; have _t := tk4; refine hC4.mono ?_; rintro r w4 ⟨rfl, hw, hf⟩; clear tk4 _t; have HRd4 : Hid (Rd w4 p s a4 e4) := hw; have HF4 : Hid (Fr w w4 (fun k => k = p)) := HF3.out.trans hf (fun _ _ h => h); have HKr4 : Hid (w4.heap[gr]? = some (.cells #[.int .i64 0, .int .i64 0, .int .i64 0, .int .i64 0, .slice none 0 0, .slice none 0 0, .string ⟨#[]⟩, .slice none 0 0, .slice none 0 0, .int .i64 0, .int .i64 0, .int .i64 0, .bool false, .bool false, .bool false, .bool false, .bool false, .int .i64 0, .int .i64 0, .int .i64 0, .int .i64 0, .int .i64 0, .int .i64 0, .int .i64 0, .int .i64 0, .bool false] 69 (0, 0))) := (hf.block gr (ma_lt HKr3.out) (by have := HPl.out; have := HGr.out; omega)).trans HKr3.out; clear hw hf hC4; skip)
    | (refine wpList_store_row rfl 69 _ _ rfl w4.heap.size #[.int .i64 (x0 : Nat), .int .i64 (x1 : Nat), .int .i64 (x2 : Nat), .int .i64 (x3 : Nat), .slice none 0 0, .slice none 0 0, .string ⟨#[]⟩, .slice none 0 0, .slice none 0 0, .int .i64 0, .int .i64 0, .int .i64 0, .bool false, .bool false, .bool false, .bool false, .bool false, .int .i64 0, .int .i64 0, .int .i64 0, .int .i64 0, .int .i64 0, .int .i64 0, .int .i64 0, .int .i64 0, .bool false] rfl rfl 69 #[.int .i64 0, .int .i64 0, .int .i64 0, .int .i64 0, .slice none 0 0, .slice none 0 0, .string ⟨#[]⟩, .slice none 0 0, .slice none 0 0, .int .i64 0, .int .i64 0, .int .i64 0, .bool false, .bool false, .bool false, .bool false, .bool false, .int .i64 0, .int .i64 0, .int .i64 0, .int .i64 0, .int .i64 0, .int .i64 0, .int .i64 0, .int .i64 0, .bool false] (heap_alloc_new _ _) size_tskT rfl (by simp [Value.oneCell']) ?_))
  generalize hW6 : World.setRow _ _ _ = W6
  obtain ⟨gx, hgx⟩ : ∃ gx, w4.heap.size = gx := ⟨_, rfl⟩
  have HI6 : Hid (TtI w W6 p s a4 e4 gr gx #[.int .i64 (x0 : Nat), .int .i64 (x1 : Nat), .int .i64 (x2 : Nat), .int .i64 (x3 : Nat), .slice none 0 0, .slice none 0 0, .string ⟨#[]⟩, .slice none 0 0, .slice none 0 0, .int .i64 0, .int .i64 0, .int .i64 0, .bool false, .bool false, .bool false, .bool false, .bool false, .int .i64 0, .int .i64 0, .int .i64 0, .int .i64 0, .int .i64 0, .int .i64 0, .int .i64 0, .int .i64 0, .bool false]) := by
    obtain ⟨V, hV⟩ : ∃ V, w4.alloc (.cells #[.int .i64 0, .int .i64 0, .int .i64 0, .int .i64 0, .slice none 0 0, .slice none 0 0, .string ⟨#[]⟩, .slice none 0 0, .slice none 0 0, .int .i64 0, .int .i64 0, .int .i64 0, .bool false, .bool false, .bool false, .bool false, .bool false, .int .i64 0, .int .i64 0, .int .i64 0, .int .i64 0, .int .i64 0, .int .i64 0, .int .i64 0, .int .i64 0, .bool false] 69) = V := ⟨_, rfl⟩
    have hbV : Below w4.heap.size w4 V := by rw [← hV]; exact ma_new _ _
    have hkV : V.heap[gx]? = some (.cells #[.int .i64 0, .int .i64 0, .int .i64 0, .int .i64 0, .slice none 0 0, .slice none 0 0, .string ⟨#[]⟩, .slice none 0 0, .slice none 0 0, .int .i64 0, .int .i64 0, .int .i64 0, .bool false, .bool false, .bool false, .bool false, .bool false, .int .i64 0, .int .i64 0, .int .i64 0, .int .i64 0, .int .i64 0, .int .i64 0, .int .i64 0, .int .i64 0, .bool false] 69 (0, 0)) := by rw [← hV, ← hgx]; exact heap_alloc_new _ _
    rw [hV, hgx] at hW6
    have hf : Fr V W6 (fun k => k = gx) := by rw [← hW6]; exact ap_setRow _ _ _
    have hz := HF4.out.size
    have hpl := HPl.out
    have hgg := HGr.out
    have hrr := ma_lt HKr4.out
    have hI : TtI w V p s a4 e4 gr gx #[.int .i64 0, .int .i64 0, .int .i64 0, .int .i64 0, .slice none 0 0, .slice none 0 0, .string ⟨#[]⟩, .slice none 0 0, .slice none 0 0, .int .i64 0, .int .i64 0, .int .i64 0, .bool false, .bool false, .bool false, .bool false, .bool false, .int .i64 0, .int .i64 0, .int .i64 0, .int .i64 0, .int .i64 0, .int .i64 0, .int .i64 0, .int .i64 0, .bool false] := ⟨HRd4.out.below hbV, HF4.out.trans (Fr.ofBelow hbV _) (fun _ _ h => h), hkV, (hbV.block gr hrr).trans HKr4.out, by omega, by omega, by omega, by omega, by omega⟩
    exact hI.write hf (by rw [← hW6]; exact setRow_heap _ _ _ _ _ _ hkV)
  rw [hgx]
  clear hW6 hgx HRd1 HRd2 HRd3 HRd4 HF0 HF1 HF2 HF3 HF4 HKr1 HKr2 HKr3 HKr4 HK0 HB0 HRd0
  have hC1 := srd_most HI6.out.rd HSz.out HBs.out.2.2.2.2.1 HR.out.h4
  have tk1 : Hid True := trivial
  go_upto_region 3 with (first
    | (go_at_call 56; have _t := tk1; refine hC1.mono ?_; rintro r w7 ⟨rfl, hw, hf⟩; clear tk1 _t; have HI7 : Hid (TtI w w7 p s a5 e5 gr gx #[.int .i64 (x0 : Nat), .int .i64 (x1 : Nat), .int .i64 (x2 : Nat), .int .i64 (x3 : Nat), .slice none 0 0, .slice none 0 0, .string ⟨#[]⟩, .slice none 0 0, .slice none 0 0, .int .i64 0, .int .i64 0, .int .i64 0, .bool false, .bool false, .bool false, .bool false, .bool false, .int .i64 0, .int .i64 0, .int .i64 0, .int .i64 0, .int .i64 0, .int .i64 0, .int .i64 0, .int .i64 0, .bool false]) := HI6.out.call hw hf; clear hw hf hC1; have tk2 : Hid True := trivial; have hC2 := srd_most HI7.out.rd HSz.out HBs.out.2.2.2.2.2.1 HR.out.h5)
    | (go_at_call 56; have _t := tk2; refine hC2.mono ?_; rintro r w8 ⟨rfl, hw, hf⟩; clear tk2 _t; have HI8 : Hid (TtI w w8 p s a6 e6 gr gx #[.int .i64 (x0 : Nat), .int .i64 (x1 : Nat), .int .i64 (x2 : Nat), .int .i64 (x3 : Nat), .slice none 0 0, .slice none 0 0, .string ⟨#[]⟩, .slice none 0 0, .slice none 0 0, .int .i64 0, .int .i64 0, .int .i64 0, .bool false, .bool false, .bool false, .bool false, .bool false, .int .i64 0, .int .i64 0, .int .i64 0, .int .i64 0, .int .i64 0, .int .i64 0, .int .i64 0, .int .i64 0, .bool false]) := HI7.out.call hw hf; clear hw hf hC2; have hC3 := srd_most HI8.out.rd HSz.out HBs.out.2.2.2.2.2.2.1 HR.out.h6)
    | (go_at_call 56; refine hC3.mono ?_; rintro r w9 ⟨rfl, hw, hf⟩; have HI9 : Hid (TtI w w9 p s a7 e7 gr gx #[.int .i64 (x0 : Nat), .int .i64 (x1 : Nat), .int .i64 (x2 : Nat), .int .i64 (x3 : Nat), .slice none 0 0, .slice none 0 0, .string ⟨#[]⟩, .slice none 0 0, .slice none 0 0, .int .i64 0, .int .i64 0, .int .i64 0, .bool false, .bool false, .bool false, .bool false, .bool false, .int .i64 0, .int .i64 0, .int .i64 0, .int .i64 0, .int .i64 0, .int .i64 0, .int .i64 0, .int .i64 0, .bool false]) := HI8.out.call hw hf; clear hw hf hC3; have k22 := HI9.out.fz 22; have k23 := HI9.out.fz 23; have k24 := HI9.out.fz 24; have c22 : w9.cell? ⟨gx, 22, none⟩ = some (.int .i64 0) := (by simp [World.cell?, HI9.out.bx]); have c23 : w9.cell? ⟨gx, 23, none⟩ = some (.int .i64 0) := (by simp [World.cell?, HI9.out.bx]); have c24 : w9.cell? ⟨gx, 24, none⟩ = some (.int .i64 0) := (by simp [World.cell?, HI9.out.bx])))
  generalize hW10 : World.setCell _ _ _ = W10
  have HI10 : Hid (TtI w W10 p s a7 e7 gr gx #[.int .i64 (x0 : Nat), .int .i64 (x1 : Nat), .int .i64 (x2 : Nat), .int .i64 (x3 : Nat), .slice none 0 0, .slice none 0 0, .string ⟨#[]⟩, .slice none 0 0, .slice none 0 0, .int .i64 0, .int .i64 0, .int .i64 0, .bool false, .bool false, .bool false, .bool false, .bool false, .int .i64 0, .int .i64 0, .int .i64 0, .int .i64 0, .int .i64 0, .int .i64 (x4 : Nat), .int .i64 (x5 : Nat), .int .i64 (x6 : Nat), .bool false]) := HI9.out.write (by rw [← hW10]; exact ((Fr.setCell (S := fun k => k = gx) _ _ _ rfl).trans (Fr.setCell (S := fun k => k = gx) _ _ _ rfl) (fun _ _ h => h)).trans (Fr.setCell (S := fun k => k = gx) _ _ _ rfl) (fun _ _ h => h)) (by rw [← hW10]; exact ma_set _ (ma_set _ (ma_set _ HI9.out.bx)))
  clear hW10 k22 k23 k24 c22 c23 c24
  have hL1 := takelist_any HI10.out.rd HSz.out HBs.out.2.2.2.2.2.2.2.1 HR.out.hc1 HR.out.hl1
  simp only at hL1
  have HGx : Hid (gx < W10.heap.size ∧ gr < W10.heap.size ∧ p < W10.heap.size ∧ w.heap.size ≤ W10.heap.size) := ⟨ma_lt HI10.out.bx, ma_lt HI10.out.br, HI10.out.rd.lt, HI10.out.fr.size⟩
  have tk1 : Hid True := trivial
  go_upto_region 4 with (first
    | (go_at_call 98; have _t := tk1; refine hL1.mono ?_; rintro r w11 ⟨v1, rfl, hv, hw, hf⟩; clear tk1 _t; have HI11 : Hid (TtI w w11 p s b2 f2 gr gx #[.int .i64 (x0 : Nat), .int .i64 (x1 : Nat), .int .i64 (x2 : Nat), .int .i64 (x3 : Nat), .slice none 0 0, .slice none 0 0, .string ⟨#[]⟩, .slice none 0 0, .slice none 0 0, .int .i64 0, .int .i64 0, .int .i64 0, .bool false, .bool false, .bool false, .bool false, .bool false, .int .i64 0, .int .i64 0, .int .i64 0, .int .i64 0, .int .i64 0, .int .i64 (x4 : Nat), .int .i64 (x5 : Nat), .int .i64 (x6 : Nat), .bool false]) := HI10.out.call hw hf; have HO11 : Hid (OwL w w11 p gr gx v1 P) := ⟨GO.lower hv HGx.out.2.2.2, fun k hk => (by have := (GO.lt hv k hk).1; have := HGx.out; omega)⟩; have HGy : Hid (gx < w11.heap.size ∧ gr < w11.heap.size ∧ p < w11.heap.size ∧ w.heap.size ≤ w11.heap.size) := ⟨ma_lt HI11.out.bx, ma_lt HI11.out.br, HI11.out.rd.lt, HI11.out.fr.size⟩; clear hv hw hf hL1; have hL2 := takelist_any HI11.out.rd HSz.out HBs.out.2.2.2.2.2.2.2.2.1 HR.out.hc2 HR.out.hl2; simp only at hL2)
    | (go_at_call 98; refine hL2.mono ?_; rintro r w12 ⟨v2, rfl, hv, hw, hf⟩; have HI12 : Hid (TtI w w12 p s b4 f4 gr gx #[.int .i64 (x0 : Nat), .int .i64 (x1 : Nat), .int .i64 (x2 : Nat), .int .i64 (x3 : Nat), .slice none 0 0, .slice none 0 0, .string ⟨#[]⟩, .slice none 0 0, .slice none 0 0, .int .i64 0, .int .i64 0, .int .i64 0, .bool false, .bool false, .bool false, .bool false, .bool false, .int .i64 0, .int .i64 0, .int .i64 0, .int .i64 0, .int .i64 0, .int .i64 (x4 : Nat), .int .i64 (x5 : Nat), .int .i64 (x6 : Nat), .bool false]) := HI11.out.call hw hf; have HO12 : Hid (OwL w w12 p gr gx v1 P) := HO11.out.kept hf (fun k hk => .inl hk); have HQ12 : Hid (OwL w w12 p gr gx v2 A) := ⟨GO.lower hv HGy.out.2.2.2, fun k hk => (by have := (GO.lt hv k hk).1; have := HGy.out; omega)⟩; clear hw hf hL2; obtain ⟨l1, m1, rfl, _, _⟩ := GO.shape HO12.out.own; obtain ⟨l2, m2, rfl, _, _⟩ := GO.shape hv; clear hv; have k4 := HI12.out.fz 4; have k5 := HI12.out.fz 5; have c4 : w12.cell? ⟨gx, 4, none⟩ = some (.slice none 0 0) := (by simp [World.cell?, HI12.out.bx]); have c5 : w12.cell? ⟨gx, 5, none⟩ = some (.slice none 0 0) := (by simp [World.cell?, HI12.out.bx])))
  generalize hW13 : World.setCell _ _ _ = W13
  have HF13 : Hid (Fr w12 W13 (fun k => k = gx)) := by rw [← hW13]; exact (Fr.setCell (S := fun k => k = gx) _ _ _ rfl).trans (Fr.setCell (S := fun k => k = gx) _ _ _ rfl) (fun _ _ h => h)
  have HI13 : Hid (TtI w W13 p s b4 f4 gr gx #[.int .i64 (x0 : Nat), .int .i64 (x1 : Nat), .int .i64 (x2 : Nat), .int .i64 (x3 : Nat), .slice l1 P.length m1, .slice l2 A.length m2, .string ⟨#[]⟩, .slice none 0 0, .slice none 0 0, .int .i64 0, .int .i64 0, .int .i64 0, .bool false, .bool false, .bool false, .bool false, .bool false, .int .i64 0, .int .i64 0, .int .i64 0, .int .i64 0, .int .i64 0, .int .i64 (x4 : Nat), .int .i64 (x5 : Nat), .int .i64 (x6 : Nat), .bool false]) := HI12.out.write HF13.out (by rw [← hW13]; exact ma_set _ (ma_set _ HI12.out.bx))
  have HO13 : Hid (OwL w W13 p gr gx (.slice l1 P.length m1) P) := HO12.out.kept HF13.out (fun k hk => .inr (.inr hk))
  have HQ13 : Hid (OwL w W13 p gr gx (.slice l2 A.length m2) A) := HQ12.out.kept HF13.out (fun k hk => .inr (.inr hk))
  clear hW13 k4 k5 c4 c5
  have hBo := rbo_to HI13.out.rd HSz.out HBs.out.2.2.2.2.2.2.2.2.2.1 HR.out.hb
  go_upto_region 5 with (go_at_call 99; refine hBo.mono ?_; rintro r w14 ⟨rfl, hw, hf⟩; have HI14 : Hid (TtI w w14 p s b5 f5 gr gx #[.int .i64 (x0 : Nat), .int .i64 (x1 : Nat), .int .i64 (x2 : Nat), .int .i64 (x3 : Nat), .slice l1 P.length m1, .slice l2 A.length m2, .string ⟨#[]⟩, .slice none 0 0, .slice none 0 0, .int .i64 0, .int .i64 0, .int .i64 0, .bool false, .bool false, .bool false, .bool false, .bool false, .int .i64 0, .int .i64 0, .int .i64 0, .int .i64 0, .int .i64 0, .int .i64 (x4 : Nat), .int .i64 (x5 : Nat), .int .i64 (x6 : Nat), .bool false]) := HI13.out.call hw hf; have HO14 : Hid (OwL w w14 p gr gx (.slice l1 P.length m1) P) := HO13.out.kept hf (fun k hk => .inl hk); have HQ14 : Hid (OwL w w14 p gr gx (.slice l2 A.length m2) A) := HQ13.out.kept hf (fun k hk => .inl hk); clear hw hf hBo; have k25 := HI14.out.fz 25; have c25 : w14.cell? ⟨gx, 25, none⟩ = some (.bool false) := (by simp [World.cell?, HI14.out.bx]))
  generalize hW15 : World.setCell _ _ _ = W15
  have HF15 : Hid (Fr w14 W15 (fun k => k = gx)) := by rw [← hW15]; exact Fr.setCell (S := fun k => k = gx) _ _ _ rfl
  have HI15 : Hid (TtI w W15 p s b5 f5 gr gx #[.int .i64 (x0 : Nat), .int .i64 (x1 : Nat), .int .i64 (x2 : Nat), .int .i64 (x3 : Nat), .slice l1 P.length m1, .slice l2 A.length m2, .string ⟨#[]⟩, .slice none 0 0, .slice none 0 0, .int .i64 0, .int .i64 0, .int .i64 0, .bool false, .bool false, .bool false, .bool false, .bool false, .int .i64 0, .int .i64 0, .int .i64 0, .int .i64 0, .int .i64 0, .int .i64 (x4 : Nat), .int .i64 (x5 : Nat), .int .i64 (x6 : Nat), .bool kp]) := HI14.out.write HF15.out (by rw [← hW15]; exact ma_set _ HI14.out.bx)
  have HO15 : Hid (OwL w W15 p gr gx (.slice l1 P.length m1) P) := HO14.out.kept HF15.out (fun k hk => .inr (.inr hk))
  have HQ15 : Hid (OwL w W15 p gr gx (.slice l2 A.length m2) A) := HQ14.out.kept HF15.out (fun k hk => .inr (.inr hk))
  clear hW15 k25 c25
  have hT := atake_any HI15.out.rd HSz.out HBs.out.2.2.2.2.2.2.2.2.2.2.1 HI15.out.rd.lt
  rw [HR.out.ho, HR.out.hk] at hT
  have hT : Calls Tryz.prog 94 #[.pointer (some ⟨p, 0, none⟩)] W15 fun r w' => r = .returned (.agg #[.bool (oh o 0), .bool (oh o 1), .bool (oh o 2), .bool (oh o 3), .bool (oh o 4), .int .i64 (ov o 0), .int .i64 (ov o 1), .int .i64 (ov o 2), .int .i64 (ov o 3), .int .i64 (ov o 4)]) ∧ Rd w' p s b6 f6 ∧ Fr W15 w' (fun k => k = p) := hT
  go_upto_region 6 with (first
    | (go_at_call 94; refine hT.mono ?_; rintro r w16 ⟨rfl, hw, hf⟩; have HI16 : Hid (TtI w w16 p s b6 f6 gr gx #[.int .i64 (x0 : Nat), .int .i64 (x1 : Nat), .int .i64 (x2 : Nat), .int .i64 (x3 : Nat), .slice l1 P.length m1, .slice l2 A.length m2, .string ⟨#[]⟩, .slice none 0 0, .slice none 0 0, .int .i64 0, .int .i64 0, .int .i64 0, .bool false, .bool false, .bool false, .bool false, .bool false, .int .i64 0, .int .i64 0, .int .i64 0, .int .i64 0, .int .i64 0, .int .i64 (x4 : Nat), .int .i64 (x5 : Nat), .int .i64 (x6 : Nat), .bool kp]) := HI15.out.call hw hf; have HO16 : Hid (OwL w w16 p gr gx (.slice l1 P.length m1) P) := HO15.out.kept hf (fun k hk => .inl hk); have HQ16 : Hid (OwL w w16 p gr gx (.slice l2 A.length m2) A) := HQ15.out.kept hf (fun k hk => .inl hk); clear hw hf hT)
    | (refine wpList_store_mid rfl 54 _ _ rfl gx 12 #[.bool (oh o 0), .bool (oh o 1), .bool (oh o 2), .bool (oh o 3), .bool (oh o 4), .int .i64 (ov o 0), .int .i64 (ov o 1), .int .i64 (ov o 2), .int .i64 (ov o 3), .int .i64 (ov o 4)] rfl rfl (there_blkM HI16.out.bx (by simp)) size_ag (by simp [Value.oneCell']) ?_))
  generalize hW17 : World.setCells _ _ _ _ = W17
  have HF17 : Hid (Fr w16 W17 (fun k => k = gx)) := by rw [← hW17]; exact fr_setCellsM gx (S := fun k => k = gx) rfl _ _ _
  have HI17 : Hid (TtI w W17 p s b6 f6 gr gx #[.int .i64 (x0 : Nat), .int .i64 (x1 : Nat), .int .i64 (x2 : Nat), .int .i64 (x3 : Nat), .slice l1 P.length m1, .slice l2 A.length m2, .string ⟨#[]⟩, .slice none 0 0, .slice none 0 0, .int .i64 0, .int .i64 0, .int .i64 0, .bool (oh o 0), .bool (oh o 1), .bool (oh o 2), .bool (oh o 3), .bool (oh o 4), .int .i64 (ov o 0), .int .i64 (ov o 1), .int .i64 (ov o 2), .int .i64 (ov o 3), .int .i64 (ov o 4), .int .i64 (x4 : Nat), .int .i64 (x5 : Nat), .int .i64 (x6 : Nat), .bool kp]) := HI16.out.write HF17.out (by rw [← hW17]; have := blk_setCells [.bool (oh o 0), .bool (oh o 1), .bool (oh o 2), .bool (oh o 3), .bool (oh o 4), .int .i64 (ov o 0), .int .i64 (ov o 1), .int .i64 (ov o 2), .int .i64 (ov o 3), .int .i64 (ov o 4)] 12 w16 _ HI16.out.bx; rw [mid_putA] at this; exact this)
  have HO17 : Hid (OwL w W17 p gr gx (.slice l1 P.length m1) P) := HO16.out.kept HF17.out (fun k hk => .inr (.inr hk))
  have HQ17 : Hid (OwL w W17 p gr gx (.slice l2 A.length m2) A) := HQ16.out.kept HF17.out (fun k hk => .inr (.inr hk))
  clear hW17
  have HGz : Hid (gx < W17.heap.size ∧ gr < W17.heap.size ∧ p < W17.heap.size ∧ w.heap.size ≤ W17.heap.size) := ⟨ma_lt HI17.out.bx, ma_lt HI17.out.br, HI17.out.rd.lt, HI17.out.fr.size⟩
  have hJ := takej_any HI17.out.rd HSz.out HBs.out.2.2.2.2.2.2.2.2.2.2.2 HR.out.hj HR.out.he
  by_cases hz : ee = 0
  · have hJg : Calls Tryz.prog 17 #[.pointer (some ⟨p, 0, none⟩)] W17 fun r w' => (∃ go gc po pc, r = .returned (.agg #[.string t, .slice go G.length gc, .slice po ps.length pc, .int .i64 (st : Int), .int .i64 (se : Int), .int .i64 (pa : Int)]) ∧ VxAt w' (fun k => W17.heap.size ≤ k) go G ∧ IsP w' (fun k => W17.heap.size ≤ k) po ps) ∧ Rd w' p s j7 ee ∧ Fr W17 w' (fun k => k = p) :=
      hJ.mono (fun r w' hh => ⟨hh.1.elim (fun h => h.2) (fun h => absurd hz h.1), hh.2⟩)
    clear hJ
    subst hz
    go_upto_region 7 with (first
      | (go_at_call 17; refine hJg.mono ?_; rintro r w18 ⟨⟨go, gc, po, pc, rfl, hvx, his⟩, hw, hf⟩; have HI18 : Hid (TtI w w18 p s j7 0 gr gx #[.int .i64 (x0 : Nat), .int .i64 (x1 : Nat), .int .i64 (x2 : Nat), .int .i64 (x3 : Nat), .slice l1 P.length m1, .slice l2 A.length m2, .string ⟨#[]⟩, .slice none 0 0, .slice none 0 0, .int .i64 0, .int .i64 0, .int .i64 0, .bool (oh o 0), .bool (oh o 1), .bool (oh o 2), .bool (oh o 3), .bool (oh o 4), .int .i64 (ov o 0), .int .i64 (ov o 1), .int .i64 (ov o 2), .int .i64 (ov o 3), .int .i64 (ov o 4), .int .i64 (x4 : Nat), .int .i64 (x5 : Nat), .int .i64 (x6 : Nat), .bool kp]) := HI17.out.call hw hf; have HO18 : Hid (OwL w w18 p gr gx (.slice l1 P.length m1) P) := HO17.out.kept hf (fun k hk => .inl hk); have HQ18 : Hid (OwL w w18 p gr gx (.slice l2 A.length m2) A) := HQ17.out.kept hf (fun k hk => .inl hk); have HVx : Hid (VxAt w18 (fun k => W17.heap.size ≤ k) go G) := hvx; have HIs : Hid (IsP w18 (fun k => W17.heap.size ≤ k) po ps) := his; clear hw hf hvx his hJg)
      | (refine wpList_store_mid rfl 27 _ _ rfl gx 6 #[.string t, .slice go G.length gc, .slice po ps.length pc, .int .i64 (st : Int), .int .i64 (se : Int), .int .i64 (pa : Int)] rfl rfl (there_blkM HI18.out.bx (by simp)) size_jobJ (by simp [Value.oneCell']) ?_))
    generalize hW19 : World.setCells _ _ _ _ = W19
    have HF19 : Hid (Fr w18 W19 (fun k => k = gx)) := by rw [← hW19]; exact fr_setCellsM gx (S := fun k => k = gx) rfl _ _ _
    have HI19 : Hid (TtI w W19 p s j7 0 gr gx #[.int .i64 (x0 : Nat), .int .i64 (x1 : Nat), .int .i64 (x2 : Nat), .int .i64 (x3 : Nat), .slice l1 P.length m1, .slice l2 A.length m2, .string t, .slice go G.length gc, .slice po ps.length pc, .int .i64 (st : Int), .int .i64 (se : Int), .int .i64 (pa : Int), .bool (oh o 0), .bool (oh o 1), .bool (oh o 2), .bool (oh o 3), .bool (oh o 4), .int .i64 (ov o 0), .int .i64 (ov o 1), .int .i64 (ov o 2), .int .i64 (ov o 3), .int .i64 (ov o 4), .int .i64 (x4 : Nat), .int .i64 (x5 : Nat), .int .i64 (x6 : Nat), .bool kp]) := HI18.out.write HF19.out (by rw [← hW19]; have := blk_setCells [.string t, .slice go G.length gc, .slice po ps.length pc, .int .i64 (st : Int), .int .i64 (se : Int), .int .i64 (pa : Int)] 6 w18 _ HI18.out.bx; rw [mid_putJ] at this; exact this)
    have HO19 : Hid (OwL w W19 p gr gx (.slice l1 P.length m1) P) := HO18.out.kept HF19.out (fun k hk => .inr (.inr hk))
    have HQ19 : Hid (OwL w W19 p gr gx (.slice l2 A.length m2) A) := HQ18.out.kept HF19.out (fun k hk => .inr (.inr hk))
    have HVx19 : Hid (VxAt W19 (fun k => W17.heap.size ≤ k) go G) := HVx.out.kept HF19.out (fun k hk hp => ⟨fun e => by have := HGz.out.1; omega, hp⟩)
    have HIs19 : Hid (IsP W19 (fun k => W17.heap.size ≤ k) po ps) := HIs.out.kept HF19.out (fun k hk hp => ⟨fun e => by have := HGz.out.1; omega, hp⟩)
    clear hW19
    go_wp2_with (first
      | (go_at_call 58; refine (err_any HI19.out.rd).mono ?_; rintro r w20 ⟨rfl, h20⟩; rw [h20]; clear h20)
      | (refine wpList_load_row rfl 69 _ rfl gx rfl 69 #[.int .i64 (x0 : Nat), .int .i64 (x1 : Nat), .int .i64 (x2 : Nat), .int .i64 (x3 : Nat), .slice l1 P.length m1, .slice l2 A.length m2, .string t, .slice go G.length gc, .slice po ps.length pc, .int .i64 (st : Int), .int .i64 (se : Int), .int .i64 (pa : Int), .bool (oh o 0), .bool (oh o 1), .bool (oh o 2), .bool (oh o 3), .bool (oh o 4), .int .i64 (ov o 0), .int .i64 (ov o 1), .int .i64 (ov o 2), .int .i64 (ov o 3), .int .i64 (ov o 4), .int .i64 (x4 : Nat), .int .i64 (x5 : Nat), .int .i64 (x6 : Nat), .bool kp] (0, 0) _ HI19.out.bx Tryz.underlying69 rfl size_tskT ?_)
      | (refine wpList_store_row rfl 69 _ _ rfl gr #[.int .i64 (x0 : Nat), .int .i64 (x1 : Nat), .int .i64 (x2 : Nat), .int .i64 (x3 : Nat), .slice l1 P.length m1, .slice l2 A.length m2, .string t, .slice go G.length gc, .slice po ps.length pc, .int .i64 (st : Int), .int .i64 (se : Int), .int .i64 (pa : Int), .bool (oh o 0), .bool (oh o 1), .bool (oh o 2), .bool (oh o 3), .bool (oh o 4), .int .i64 (ov o 0), .int .i64 (ov o 1), .int .i64 (ov o 2), .int .i64 (ov o 3), .int .i64 (ov o 4), .int .i64 (x4 : Nat), .int .i64 (x5 : Nat), .int .i64 (x6 : Nat), .bool kp] rfl rfl 69 #[.int .i64 0, .int .i64 0, .int .i64 0, .int .i64 0, .slice none 0 0, .slice none 0 0, .string ⟨#[]⟩, .slice none 0 0, .slice none 0 0, .int .i64 0, .int .i64 0, .int .i64 0, .bool false, .bool false, .bool false, .bool false, .bool false, .int .i64 0, .int .i64 0, .int .i64 0, .int .i64 0, .int .i64 0, .int .i64 0, .int .i64 0, .int .i64 0, .bool false] HI19.out.br size_tskT rfl (by simp [Value.oneCell']) ?_))
    refine bodyPost_ret (v := .agg #[.int .i64 (x0 : Nat), .int .i64 (x1 : Nat), .int .i64 (x2 : Nat), .int .i64 (x3 : Nat), .slice l1 P.length m1, .slice l2 A.length m2, .string t, .slice go G.length gc, .slice po ps.length pc, .int .i64 (st : Int), .int .i64 (se : Int), .int .i64 (pa : Int), .bool (oh o 0), .bool (oh o 1), .bool (oh o 2), .bool (oh o 3), .bool (oh o 4), .int .i64 (ov o 0), .int .i64 (ov o 1), .int .i64 (ov o 2), .int .i64 (ov o 3), .int .i64 (ov o 4), .int .i64 (x4 : Nat), .int .i64 (x5 : Nat), .int .i64 (x6 : Nat), .bool kp]) (results_cell_row Tryz.results41 _ _ gr 69 _ (0, 0) _ rfl (setRow_heap _ _ _ _ _ _ HI19.out.br) Tryz.underlying69 rfl size_tskT) rfl ?_
    have f20 := ap_setRow W19 gr #[.int .i64 (x0 : Nat), .int .i64 (x1 : Nat), .int .i64 (x2 : Nat), .int .i64 (x3 : Nat), .slice l1 P.length m1, .slice l2 A.length m2, .string t, .slice go G.length gc, .slice po ps.length pc, .int .i64 (st : Int), .int .i64 (se : Int), .int .i64 (pa : Int), .bool (oh o 0), .bool (oh o 1), .bool (oh o 2), .bool (oh o 3), .bool (oh o 4), .int .i64 (ov o 0), .int .i64 (ov o 1), .int .i64 (ov o 2), .int .i64 (ov o 3), .int .i64 (ov o 4), .int .i64 (x4 : Nat), .int .i64 (x5 : Nat), .int .i64 (x6 : Nat), .bool kp]
    have hgg := HGr.out
    have hgz := HGz.out
    have hap := HI19.out.ap
    refine ⟨⟨_, _, _, _, _, ⟨_, rfl⟩, (HO19.out.kept f20 (fun k hk => .inr (.inl hk))).own, (HQ19.out.kept f20 (fun k hk => .inr (.inl hk))).own, HVx19.out.kept f20 (fun k hk hp => ⟨fun e => by omega, by omega⟩), HIs19.out.kept f20 (fun k hk hp => ⟨fun e => by omega, by omega⟩)⟩, HI19.out.rd.kept f20 (fun e => hap.2.1 e.symm), HI19.out.fr.trans f20 (fun k hk e => by omega)⟩
  · have hJg : Calls Tryz.prog 17 #[.pointer (some ⟨p, 0, none⟩)] W17 fun r w' => r = .returned (.agg #[.string ByteArray.empty, .slice none 0 0, .slice none 0 0, .int .i64 0, .int .i64 0, .int .i64 0]) ∧ Rd w' p s j7 ee ∧ Fr W17 w' (fun k => k = p) :=
      hJ.mono (fun r w' hh => ⟨hh.1.elim (fun h => absurd h.1 hz) (fun h => h.2), hh.2⟩)
    clear hJ
    go_upto_region 7 with (first
      | (go_at_call 17; refine hJg.mono ?_; rintro r w18 ⟨rfl, hw, hf⟩; have HI18 : Hid (TtI w w18 p s j7 ee gr gx #[.int .i64 (x0 : Nat), .int .i64 (x1 : Nat), .int .i64 (x2 : Nat), .int .i64 (x3 : Nat), .slice l1 P.length m1, .slice l2 A.length m2, .string ⟨#[]⟩, .slice none 0 0, .slice none 0 0, .int .i64 0, .int .i64 0, .int .i64 0, .bool (oh o 0), .bool (oh o 1), .bool (oh o 2), .bool (oh o 3), .bool (oh o 4), .int .i64 (ov o 0), .int .i64 (ov o 1), .int .i64 (ov o 2), .int .i64 (ov o 3), .int .i64 (ov o 4), .int .i64 (x4 : Nat), .int .i64 (x5 : Nat), .int .i64 (x6 : Nat), .bool kp]) := HI17.out.call hw hf; clear hw hf hJg)
      | (refine wpList_store_mid rfl 27 _ _ rfl gx 6 #[.string ByteArray.empty, .slice none 0 0, .slice none 0 0, .int .i64 0, .int .i64 0, .int .i64 0] rfl rfl (there_blkM HI18.out.bx (by simp)) size_jobJ (by simp [Value.oneCell']) ?_))
    generalize hW19 : World.setCells _ _ _ _ = W19
    have HF19 : Hid (Fr w18 W19 (fun k => k = gx)) := by rw [← hW19]; exact fr_setCellsM gx (S := fun k => k = gx) rfl _ _ _
    have HI19 : Hid (TtI w W19 p s j7 ee gr gx #[.int .i64 (x0 : Nat), .int .i64 (x1 : Nat), .int .i64 (x2 : Nat), .int .i64 (x3 : Nat), .slice l1 P.length m1, .slice l2 A.length m2, .string ByteArray.empty, .slice none 0 0, .slice none 0 0, .int .i64 0, .int .i64 0, .int .i64 0, .bool (oh o 0), .bool (oh o 1), .bool (oh o 2), .bool (oh o 3), .bool (oh o 4), .int .i64 (ov o 0), .int .i64 (ov o 1), .int .i64 (ov o 2), .int .i64 (ov o 3), .int .i64 (ov o 4), .int .i64 (x4 : Nat), .int .i64 (x5 : Nat), .int .i64 (x6 : Nat), .bool kp]) := HI18.out.write HF19.out (by rw [← hW19]; have := blk_setCells [.string ByteArray.empty, .slice none 0 0, .slice none 0 0, .int .i64 0, .int .i64 0, .int .i64 0] 6 w18 _ HI18.out.bx; rw [mid_putJ] at this; exact this)
    clear hW19
    go_wp2_with (first
      | (go_at_call 58; refine (err_any HI19.out.rd).mono ?_; rintro r w20 ⟨rfl, h20⟩; rw [h20]; clear h20)
      | (refine wpList_store_row rfl 69 _ _ rfl gr #[.int .i64 0, .int .i64 0, .int .i64 0, .int .i64 0, .slice none 0 0, .slice none 0 0, .string ⟨#[]⟩, .slice none 0 0, .slice none 0 0, .int .i64 0, .int .i64 0, .int .i64 0, .bool false, .bool false, .bool false, .bool false, .bool false, .int .i64 0, .int .i64 0, .int .i64 0, .int .i64 0, .int .i64 0, .int .i64 0, .int .i64 0, .int .i64 0, .bool false] rfl rfl 69 #[.int .i64 0, .int .i64 0, .int .i64 0, .int .i64 0, .slice none 0 0, .slice none 0 0, .string ⟨#[]⟩, .slice none 0 0, .slice none 0 0, .int .i64 0, .int .i64 0, .int .i64 0, .bool false, .bool false, .bool false, .bool false, .bool false, .int .i64 0, .int .i64 0, .int .i64 0, .int .i64 0, .int .i64 0, .int .i64 0, .int .i64 0, .int .i64 0, .bool false] HI19.out.br size_tskT rfl (by simp [Value.oneCell']) ?_))
    refine bodyPost_ret (v := .agg #[.int .i64 0, .int .i64 0, .int .i64 0, .int .i64 0, .slice none 0 0, .slice none 0 0, .string ⟨#[]⟩, .slice none 0 0, .slice none 0 0, .int .i64 0, .int .i64 0, .int .i64 0, .bool false, .bool false, .bool false, .bool false, .bool false, .int .i64 0, .int .i64 0, .int .i64 0, .int .i64 0, .int .i64 0, .int .i64 0, .int .i64 0, .int .i64 0, .bool false]) (results_cell_row Tryz.results41 _ _ gr 69 _ (0, 0) _ rfl (setRow_heap _ _ _ _ _ _ HI19.out.br) Tryz.underlying69 rfl size_tskT) rfl ?_
    have f20 := ap_setRow W19 gr #[.int .i64 0, .int .i64 0, .int .i64 0, .int .i64 0, .slice none 0 0, .slice none 0 0, .string ⟨#[]⟩, .slice none 0 0, .slice none 0 0, .int .i64 0, .int .i64 0, .int .i64 0, .bool false, .bool false, .bool false, .bool false, .bool false, .int .i64 0, .int .i64 0, .int .i64 0, .int .i64 0, .int .i64 0, .int .i64 0, .int .i64 0, .int .i64 0, .bool false]
    have hgg := HGr.out
    have hap := HI19.out.ap
    exact ⟨.inr ⟨hz, rfl⟩, HI19.out.rd.kept f20 (fun e => hap.2.1 e.symm), HI19.out.fr.trans f20 (fun k hk e => by omega)⟩
end Go.Proofs.YtidghoipmggklaaGreat
end
