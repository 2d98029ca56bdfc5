import Derived.Test.YtnhijofnhflklaaGreatGrTakeM
import Derived.Test.YtnhijofnhflklaaGreatMuDelM
import Derived.Deep.Cut
import Derived.Deep.DeepCutAuto
import Derived.Deep.CutBlock
import Derived.Test.YtnhijofnhflklaaGreatRnStep12M
import Derived.Test.YtnhijofnhflklaaGreatRnRunM
import Derived.Test.YtnhijofnhflklaaGreatNumW2M
section
/- A writer carried through several calls. -/
namespace Go.Proofs.YtnhijofnhflklaaGreat
open Go.RowKit

/-- The writer's bytes are so many; nothing else has turned. -/
def WTo (w w' : World) (base p : Nat) (v : Value) (l' : List UInt8) : Prop := ∃ v', Wr w' base p v' l' ∧ Fr w w' (fun k => k = p ∨ v.ownBlock = some k) ∧ Row w v v'
theorem WTo.refl {w : World} {base p : Nat} {v : Value} {l : List UInt8} (h : Wr w base p v l) : WTo w w base p v l := ⟨v, h, Fr.refl _ _, Row.refl _ _⟩
theorem WTo.alloc {w w' : World} {base p : Nat} {v : Value} {l : List UInt8} (h : WTo w w' base p v l) (o : Obj) : WTo w (w'.alloc o) base p v l := by
  obtain ⟨v', hw, hf, hr⟩ := h
  exact ⟨v', hw.kept (Fr.alloc w' o (fun _ => False)) (fun h => h) (fun _ _ h => h), hf.trans (Fr.alloc w' o (fun _ => False)) (fun _ _ h => h.elim), hr⟩
theorem WTo.then {w w1 w2 : World} {base p : Nat} {v v1 : Value} {l' : List UInt8} (h1 : Fr w w1 (fun k => k = p ∨ v.ownBlock = some k)) (hr : Row w v v1) (h2 : WTo w1 w2 base p v1 l') : WTo w w2 base p v l' := by
  obtain ⟨v', hw, hf, hr'⟩ := h2
  exact ⟨v', hw, h1.frame2 hr hf, hr.trans hr' h1.size⟩
/-- A block that was there, and is neither the writer's nor its row's, stands. -/
theorem WTo.cell {w w' : World} {base p : Nat} {v : Value} {l : List UInt8} (h : WTo w w' base p v l) {b o : Nat} {u : Value} (hb : b ≠ p) (hv : v.ownBlock ≠ some b) (hc : w.cell? ⟨b, o, none⟩ = some u) : w'.cell? ⟨b, o, none⟩ = some u := by
  obtain ⟨v', _, hf, _⟩ := h
  exact fr_cell hf (by rintro (e | e); exact hb e; exact hv e) hc
theorem Wr.al {w : World} {base p : Nat} {v : Value} {l : List UInt8} (h : Wr w base p v l) (o : Obj) : Wr (w.alloc o) base p v l := h.kept (Fr.alloc w o (fun _ => False)) (fun h => h) (fun _ _ h => h)
theorem Wr.olt {w : World} {base p : Nat} {v : Value} {l : List UInt8} (h : Wr w base p v l) : ∀ k, v.ownBlock = some k → k < w.heap.size := fun k hk => (h.own.lt k hk).2
theorem wsigned_w {w0 w : World} {base p : Nat} {v : Value} {l : List UInt8} (k : Int) (h : WTo w0 w base p v l) (hk : I64 k) (hroom : l.length + 10 ≤ 140737488355328) :
    Calls Tryz.prog 57 #[.pointer (some ⟨p, 0, none⟩), .int .i64 k] w fun r w' => r = .returned (.tuple #[]) ∧ WTo w0 w' base p v (l ++ sgB k) := by
  obtain ⟨v1, hw, hf, hr⟩ := h
  exact (wsigned_any k hw hk.1 hk.2 hroom).mono fun r w' ⟨h1, h2⟩ => ⟨h1, WTo.then hf hr h2⟩
theorem wcount_w {w0 w : World} {base p : Nat} {v : Value} {l : List UInt8} (n : Nat) (h : WTo w0 w base p v l) (hn : n ≤ 9223372036854775807) (hroom : l.length + 10 ≤ 140737488355328) :
    Calls Tryz.prog 56 #[.pointer (some ⟨p, 0, none⟩), .int .i64 n] w fun r w' => r = .returned (.tuple #[]) ∧ WTo w0 w' base p v (l ++ numB n) := by
  obtain ⟨v1, hw, hf, hr⟩ := h
  have := wcount_any (n : Int) hw (by omega) hroom
  rw [Int.toNat_natCast] at this
  exact this.mono fun r w' ⟨h1, h2⟩ => ⟨h1, WTo.then hf hr h2⟩
theorem WTo.fromAlloc {w w' : World} {base p : Nat} {v : Value} {l : List UInt8} {o : Obj} (h : WTo (w.alloc o) w' base p v l) : WTo w w' base p v l := by
  obtain ⟨v', hw, hf, hr⟩ := h
  refine ⟨v', hw, (Fr.alloc w o (fun _ => False)).mono (fun _ _ h => h.elim) |>.trans hf (fun _ _ h => h), ?_⟩
  rcases hr with e | ⟨g, e, hg⟩
  · exact Or.inl e
  · exact Or.inr ⟨g, e, by simp at hg; omega⟩
end Go.Proofs.YtnhijofnhflklaaGreat
end

section
/- What PutVertex and Put do to a writer. -/
namespace Go.Proofs.YtnhijofnhflklaaGreat
open Go.RowKit

theorem WTo.new {w w1 w2 : World} {B base p : Nat} {v : Value} {l l' : List UInt8} (hb : Below B w w1) (hw : Wr w1 base p v l) (h : WTo w1 w2 base p v l') (hp : B ≤ p) (hB : B ≤ base) : Below B w w2 := by
  obtain ⟨v', _, hf, _⟩ := h
  exact hb.trans (hf.below (Nat.le_trans hp (Nat.le_of_lt hw.lt)) (fun k hk => by
    rcases hk with rfl | hk
    · exact hp
    · exact Nat.le_trans hB (hw.own.lt k hk).1))

end Go.Proofs.YtnhijofnhflklaaGreat
end

section
/- run.Encode: an outcome's bytes. -/
namespace Go.Proofs.YtnhijofnhflklaaGreat
open Go.RowKit
def ocB (k e s : Int) (L : List Ed) : List UInt8 := numB k.toNat ++ numB e.toNat ++ numB s.toNat ++ numB L.length ++ L.flatMap edB
def ocH (k e s : Int) (L : List Ed) : List UInt8 := numB k.toNat ++ numB e.toNat ++ numB s.toNat ++ numB L.length
theorem wcount_o {w0 w : World} {base p : Nat} {v : Value} {l : List UInt8} (n : Int) (h : WTo w0 w base p v l) (hn : n ≤ 9223372036854775807) (hroom : l.length + 10 ≤ 140737488355328) :
    Calls Tryz.prog 56 #[.pointer (some ⟨p, 0, none⟩), .int .i64 n] w fun r w' => r = .returned (.tuple #[]) ∧ WTo w0 w' base p v (l ++ numB n.toNat) := by
  obtain ⟨v1, hw, hf, hr⟩ := h
  exact (wcount_any n hw hn hroom).mono fun r w' ⟨h1, h2⟩ => ⟨h1, WTo.then hf hr h2⟩
theorem n10 {n : Int} (h : n ≤ 9223372036854775807) : (numB n.toNat).length ≤ 10 := numB_len10 (by omega)
theorem oc_rooms {k e s : Int} {L : List Ed} (hk : k ≤ 9223372036854775807) (he : e ≤ 9223372036854775807) (hs : s ≤ 9223372036854775807) (hok : ∀ m ∈ L, m.ok) (hl : L.length ≤ 256) : (([] : List UInt8) ++ numB k.toNat).length + 10 ≤ 140737488355328 ∧ (([] : List UInt8) ++ numB k.toNat ++ numB e.toNat).length + 10 ≤ 140737488355328 ∧ (([] : List UInt8) ++ numB k.toNat ++ numB e.toNat ++ numB s.toNat).length + 10 ≤ 140737488355328 ∧
    ∀ j (h : j < L.length), (ocH k e s L ++ (L.take j).flatMap edB).length + 10 ≤ 140737488355328 ∧ (ocH k e s L ++ (L.take j).flatMap edB ++ sgB L[j].t).length + 10 ≤ 140737488355328 := by
  have h1 := n10 hk
  have h2 := n10 he
  have h3 := n10 hs
  have h4 := numB_len10 (n := L.length) (by omega)
  refine ⟨by simp; omega, by simp; omega, by simp; omega, fun j h => ?_⟩
  have h5 := edsB_len (L.take j) (fun v hv => hok v (List.mem_of_mem_take hv))
  have h6 := sgB_len (hok _ (List.getElem_mem h)).t
  rw [List.length_take] at h5
  unfold ocH
  simp only [List.length_append]
  omega
theorem oc_cells {W : World} {b : Nat} {t : TypeId} {x0 x1 x2 x3 : Value} (h : W.heap[b]? = some (.cells #[x0, x1, x2, x3] t (0, 0))) : W.cell? ⟨b, 0, none⟩ = some x0 ∧ W.cell? ⟨b, 1, none⟩ = some x1 ∧ W.cell? ⟨b, 2, none⟩ = some x2 ∧ W.cell? ⟨b, 3, none⟩ = some x3 := by
  refine ⟨?_, ?_, ?_, ?_⟩ <;> simp [World.cell?, h]
theorem val_cells {W : World} {b : Nat} {t : TypeId} {x0 x1 : Value} (h : W.heap[b]? = some (.cells #[x0, x1] t (0, 0))) : W.cell? ⟨b, 0, none⟩ = some x0 ∧ W.cell? ⟨b, 1, none⟩ = some x1 := by
  refine ⟨?_, ?_⟩ <;> simp [World.cell?, h]
set_option maxRecDepth 100000 in
set_option maxHeartbeats 2000000 in
theorem encO_any {w : World} {P : Nat → Prop} {vo : Option Addr} {k e s : Int} {L : List Ed} (vc : Nat) (hk : k ≤ 9223372036854775807) (he : e ≤ 9223372036854775807) (hs : s ≤ 9223372036854775807) (hE : EdAt w P vo L) (hok : ∀ m ∈ L, m.ok) (hl : L.length ≤ 256) :
    Calls Tryz.prog 29 #[.agg #[.int .i64 k, .int .i64 e, .int .i64 s, .slice vo L.length vc]] w fun r w' => r = .returned (.string (str (ocB k e s L))) ∧ Below w.heap.size w w' := by
  obtain ⟨r1, r2, r3, r4⟩ := oc_rooms hk he hs hok hl
  have R1 : Hid _ := r1
  have R2 : Hid _ := r2
  have R3 : Hid _ := r3
  have R4 : Hid _ := r4
  have HO : Hid (∀ m ∈ L, m.ok) := hok
  have hL : L.length ≤ 9223372036854775807 := by omega
  clear r1 r2 r3 r4 hok hl
  obtain ⟨W0, hW0⟩ : ∃ W0, w.alloc (.cells #[.int .i64 k, .int .i64 e, .int .i64 s, .slice vo L.length vc] 32) = W0 := ⟨_, rfl⟩
  have hb0 : Below w.heap.size w W0 := by rw [← hW0]; exact one_new _ _
  obtain ⟨c0, c1, c2, c3⟩ := oc_cells (show W0.heap[w.heap.size]? = some (.cells #[.int .i64 k, .int .i64 e, .int .i64 s, .slice vo L.length vc] 32 (0, 0)) by rw [← hW0]; exact heap_alloc_new _ _)
  have hE0 := hE.new hb0
  have HE : Hid (EdAt W0 P vo L) := hE0
  clear hE hE0
  go_enter Tryz.func29, Tryz.ntmps29
  go_upto_region 2 with (go_at_call 21; refine (newwriter_any _).mono ?_; rintro r w1 ⟨rfl, hw1, hb1⟩)
  have hlt : w.heap.size < W0.heap.size := lt_cell c0
  have HB : Hid (Below w.heap.size w w1) := hb0.trans (hb1.mono hb0.size)
  have HE1 : Hid (EdAt w1 (fun k => k ≠ W0.heap.size ∧ (Value.slice none 0 0).ownBlock ≠ some k) vo L) := ((HE.out.mono (Q := fun k => k < W0.heap.size) (fun _ h _ => h)).new hb1).mono (fun k _ hk => ⟨by omega, by simp [Value.ownBlock]⟩)
  have d0 := (hb1.cell (p := ⟨w.heap.size, 0, none⟩) hlt).trans c0
  have d1 := (hb1.cell (p := ⟨w.heap.size, 1, none⟩) hlt).trans c1
  have d2 := (hb1.cell (p := ⟨w.heap.size, 2, none⟩) hlt).trans c2
  have d3 := (hb1.cell (p := ⟨w.heap.size, 3, none⟩) hlt).trans c3
  have hbp : w.heap.size ≠ W0.heap.size := by omega
  have hle : w.heap.size ≤ W0.heap.size := by omega
  have HW1 : Hid _ := hw1
  have hT0 := WTo.refl hw1
  have hv0 : (Value.slice none 0 0).ownBlock ≠ some w.heap.size := by simp [Value.ownBlock]
  clear c0 c1 c2 c3 hb0 hb1 HE hW0 hlt hw1
  generalize W0.heap.size = p at *
  clear W0
  go_upto_region 3 with (go_at_call 56; refine (wcount_o k hT0 hk (by simp)).mono ?_; rintro r w2 ⟨rfl, hT1⟩)
  have e1 := hT1.cell hbp hv0 d1
  go_upto_region 4 with (go_at_call 56; refine (wcount_o e hT1 he R1.out).mono ?_; rintro r w3 ⟨rfl, hT2⟩)
  have e2 := hT2.cell hbp hv0 d2
  go_upto_region 5 with (go_at_call 56; refine (wcount_o s hT2 hs R2.out).mono ?_; rintro r w4 ⟨rfl, hT3⟩)
  have e3 := hT3.cell hbp hv0 d3
  go_upto_block 0 with (go_at_call 56; refine (wcount_w L.length hT3 hL R3.out).mono ?_; rintro r w5 ⟨rfl, hT4⟩; have e4 := hT4.cell hbp hv0 d3)
  have HT4 : Hid (WTo w1 w5 (p + 1) p (.slice none 0 0) (ocH k e s L)) := by show WTo _ _ _ _ _ _; unfold ocH; simpa only [List.nil_append] using hT4
  clear hT0 hT1 hT2 hT3 hT4 e1 e2 e3 e4 d0 d1 d2 d3 R1 R2 R3
  go_wp2
  go_loopw [5, 27] (fun _ i wr => ∃ j : Nat, j ≤ L.length ∧ i = .int .i64 j ∧ WTo w1 wr (p + 1) p (.slice none 0 0) (ocH k e s L ++ (L.take j).flatMap edB)) (fun _ i _ => L.length - (intOf i).toNat)
  case atStart => exact ⟨0, Nat.zero_le _, rfl, by rw [List.take_zero, List.flatMap_nil, List.append_nil]; exact HT4.out⟩
  case round =>
    obtain ⟨j, hj, rfl, hTj⟩ := hrel
    by_cases hlt : j < L.length
    · obtain ⟨b, off, rfl, hP, hc⟩ := HE1.out (by omega)
      obtain ⟨e0, e1⟩ := hc j hlt
      have d0 := hTj.cell hP.1 hP.2 e0
      have d1 := hTj.cell hP.1 hP.2 e1
      have HR : Hid _ := R4.out j hlt
      have HZ : Hid (L[j].ok) := HO.out _ (List.getElem_mem hlt)
      have HS : Hid _ := eds_snoc L j hlt
      generalize L[j] = z at d0 d1 HR HZ HS
      obtain ⟨vj, hwj, hfj, hrj⟩ := hTj
      have hbj : wr.heap.size ≠ p := by have := hwj.lt; omega
      have hvj : vj.ownBlock ≠ some wr.heap.size := fun e => by have := hwj.olt _ e; omega
      obtain ⟨Wj, hWj⟩ : ∃ Wj, wr.alloc (.cells #[.int .i64 z.t, .int .i64 z.w] 101) = Wj := ⟨_, rfl⟩
      have hTT := WTo.refl (hwj.al (.cells #[.int .i64 z.t, .int .i64 z.w] 101))
      obtain ⟨q0, q1⟩ := val_cells (show Wj.heap[wr.heap.size]? = _ by rw [← hWj]; exact heap_alloc_new _ _)
      rw [hWj] at hTT
      have HG : Hid (∀ w' l', WTo Wj w' (p + 1) p vj l' → WTo w1 w' (p + 1) p (.slice none 0 0) l') := fun w' l' h' => by rw [← hWj] at h'; exact WTo.then hfj hrj h'.fromAlloc
      have tk1 : Hid True := trivial
      clear hc hwj hfj hrj e0 e1
      go_wp2_with (go_at_call 57; first
          | (have _t := tk1; refine (wsigned_w z.t hTT HZ.out.t HR.out.1).mono ?_; rintro r w1 ⟨rfl, hT1⟩; have c1 := hT1.cell hbj hvj q1; clear tk1)
          | (refine (wsigned_w z.w hT1 HZ.out.w HR.out.2).mono ?_; rintro r w4 ⟨rfl, hT4⟩))
      go_roundw
      case rel => exact ⟨j + 1, by omega, by go_num, HG.out _ _ (by rw [HS.out, show edB z = sgB z.t ++ sgB z.w from rfl]; simpa only [List.append_assoc] using hT4)⟩
      case measure => simp [intOf]; omega
    · obtain rfl : j = L.length := by omega
      rw [List.take_length] at hTj
      have HB2 : Hid (Below w.heap.size w wr) := WTo.new HB.out HW1.out hTj hle (by omega)
      obtain ⟨vj, hwj, hfj, hrj⟩ := hTj
      have HWj : Hid _ := hwj
      clear hwj hfj hrj
      go_wp2_with (go_at_call 24; refine (wall_any HWj.out).mono ?_; rintro r w4 ⟨rfl, rfl⟩)
      go_ret
      exact ⟨rfl, HB2.out⟩
end Go.Proofs.YtnhijofnhflklaaGreat
end

section
/- A value is put behind an outcome's values: region 5 of Decode, region 5 of Outcome. -/
namespace Go.Proofs.YtnhijofnhflklaaGreat
open Go.RowKit
def OcBoxT (W : World) (ty : TypeId) (b : Nat) (c : Array Value) : Prop := W.heap[b]? = some (.cells c ty (0, 0))
def KVT (w : World) (ty : TypeId) (base : Nat) (v : Value) (L : List Ed) : Prop := w.ownsRow base ty 2 v L.length (ecs L)
theorem infoRV : (Tryz.prog.info? 101).map (fun i => (i.zero, i.size, i.bytes)) = some (some (.agg #[.int .i64 0, .int .i64 0]), 2, 16) := by kernel_rfl
theorem infoRW : (Tryz.prog.info? 123).map (fun i => (i.zero, i.size, i.bytes)) = some (some (.agg #[.int .i64 0, .int .i64 0]), 2, 16) := by kernel_rfl
theorem r_sg {w : World} {p : Nat} {s : ByteArray} {a : Nat} {e : Int} (h : Rd w p s a e) (hs : s.size ≤ maxLen) (ha : a ≤ s.size) {n a' : Nat} {e' : Int} (hq : rdNum s a e = (n, a', e')) :
    Calls Tryz.prog 71 #[.pointer (some ⟨p, 0, none⟩)] w fun r w' => r = .returned (.int .i64 (unfoldN n)) ∧ Rd w' p s a' e' ∧ Fr w w' (fun k => k = p) := by
  have := rsigned_any h hs ha
  rw [hq] at this
  exact this
theorem oc_set {W : World} {ty : TypeId} {b : Nat} {x0 x1 x2 x3 : Value} (h : OcBoxT W ty b #[x0, x1, x2, x3]) (v : Value) : OcBoxT (W.setCell ⟨b, 3, none⟩ v) ty b #[x0, x1, x2, v] := set_heap h 3 v
theorem oc_froz {W : World} {ty : TypeId} {b o : Nat} {c : Array Value} (h : OcBoxT W ty b c) : W.frozen? ⟨b, o, none⟩ = false := by unfold OcBoxT at h; simp [World.frozen?, h]
theorem oc_fr {W W' : World} {ty : TypeId} {b : Nat} {c : Array Value} {S : Nat → Prop} (f : Fr W W' S) (hb : ¬ S b) (h : OcBoxT W ty b c) : OcBoxT W' ty b c := (f.block b (Array.getElem?_eq_some_iff.1 h).1 hb).trans h
theorem kv_app {w : World} {ty : TypeId} {base : Nat} {v : Value} {A : List Ed} {z : Ed} (h : w.ownsRow base ty 2 v (A.length + 1) (ecs A ++ [.int .i64 z.t, .int .i64 z.w])) : KVT w ty base v (A ++ [z]) := by
  unfold KVT; rw [List.length_append, ecs_snoc]; exact h
theorem one_row {W : World} {ty : TypeId} {g : Nat} {x y : Int} (h : W.heap[g]? = some (.cells #[.int .i64 x, .int .i64 y] ty (0, 0))) : W.ownsRow 0 ty 2 (.slice (some ⟨g, 0, none⟩) 1 1) 1 [.int .i64 x, .int .i64 y] :=
  ⟨rfl, .inr ⟨g, 1, _, rfl, Nat.zero_le _, h, Nat.le_refl _, by decide, rfl, rfl⟩⟩
set_option maxRecDepth 100000 in
set_option maxHeartbeats 2000000 in
theorem dec_r5 {W0 : World} {A : Act} {sv b0 b1 b2 : Value} {p ob base : Nat} {s : ByteArray} {x x1 x2 n1 n2 : Nat} {y y1 y2 : Int} {L : List Ed} {Q : Exit → Act → World → Prop} (hsz : A.tmps.size = 38) (hA4 : A.eval (.tmp 4) = .pointer (some ⟨p, 0, none⟩)) (hA5 : A.eval (.tmp 5) = .pointer (some ⟨ob, 0, none⟩)) (hRd : Rd W0 p s x y) (hs : s.size ≤ maxLen) (hx : x ≤ s.size) (hx1 : x1 ≤ s.size) (hq1 : rdNum s x y = (n1, x1, y1)) (hq2 : rdNum s x1 y1 = (n2, x2, y2)) (hpo : ¬ ob = p) (hps : ¬ sv.ownBlock = some p) (hOc : OcBoxT W0 32 ob #[b0, b1, b2, sv]) (hKV : KVT W0 101 base sv L) (hbase : base ≤ W0.heap.size) (hos : ¬ sv.ownBlock = some ob) (hlen : L.length ≤ 256)
    (HK : ∀ X W, Rd W p s x2 y2 ∧ KVT W 101 base (X 28) (L ++ [⟨unfoldN n1, unfoldN n2⟩]) ∧ (∀ k, (X 28).ownBlock = some k → sv.ownBlock = some k ∨ W0.heap.size ≤ k) ∧ OcBoxT W 32 ob #[b0, b1, b2, X 28] ∧ Fr W0 W (fun k => k = p ∨ sv.ownBlock = some k ∨ k = ob) → Q .normal (puts A X [20, 21, 22, 23, 24, 25, 26, 27, 28, 29, 1000010]) W) :
    Code.wp Tryz.prog ((Tryz.f30.body.bind (regionJ 5)).getD .skip) Q A W0 := by
  obtain ⟨ds, hds⟩ : ∃ ds, [20, 21, 22, 23, 24, 25, 26, 27, 28, 29, 1000010] = ds := ⟨_, rfl⟩
  have hin : ∀ {X : Nat → Value} {k : Nat}, k ∈ [20, 21, 22, 23, 24, 25, 26, 27, 28, 29, 1000010] → k < 38 → (puts A X ds).eval (.tmp k) = X k := fun hk hl => by rw [← hds]; exact eval_in hk (by rw [hsz]; exact hl)
  have hout : ∀ {X : Nat → Value} {k : Nat}, k ∉ [20, 21, 22, 23, 24, 25, 26, 27, 28, 29, 1000010] → (puts A X ds).eval (.tmp k) = A.eval (.tmp k) := fun hk => by rw [← hds]; exact eval_out hk
  have g0 : ds.getD 0 0 = 20 := by rw [← hds]; rfl
  have g1 : ds.getD 1 0 = 21 := by rw [← hds]; rfl
  have g2 : ds.getD 2 0 = 22 := by rw [← hds]; rfl
  have g3 : ds.getD 3 0 = 23 := by rw [← hds]; rfl
  have g4 : ds.getD 4 0 = 24 := by rw [← hds]; rfl
  have g5 : ds.getD 5 0 = 25 := by rw [← hds]; rfl
  have g6 : ds.getD 6 0 = 26 := by rw [← hds]; rfl
  have g7 : ds.getD 7 0 = 27 := by rw [← hds]; rfl
  have g8 : ds.getD 8 0 = 28 := by rw [← hds]; rfl
  have g9 : ds.getD 9 0 = 29 := by rw [← hds]; rfl
  have g10 : ds.getD 10 0 = 1000010 := by rw [← hds]; rfl
  obtain ⟨R, hR⟩ : ∃ R : World → World → Prop, ∀ W W', R W W' = (True) := ⟨fun W W' => True, fun _ _ => rfl⟩
  obtain ⟨V, hV, e0, e1, e2, e3, e4, e5, e6, e7, e8, e9, e10⟩ : ∃ V : Nat → Value → World → Prop, (∀ i v W W', V i v W → R W W' → V i v W') ∧ (∀ v W, V 0 v W = (v = .pointer (some ⟨ob, 3, none⟩))) ∧ (∀ v W, V 1 v W = (v = sv)) ∧ (∀ v W, V 2 v W = (v = .pointer (some ⟨p, 0, none⟩))) ∧ (∀ v W, V 3 v W = (v = .int .i64 (unfoldN n1))) ∧ (∀ v W, V 4 v W = (v = .pointer (some ⟨p, 0, none⟩))) ∧ (∀ v W, V 5 v W = (v = .int .i64 (unfoldN n2))) ∧ (∀ v W, V 6 v W = (v = .agg #[.int .i64 (unfoldN n1), .int .i64 (unfoldN n2)])) ∧ (∀ v W, V 7 v W = (True)) ∧ (∀ v W, V 8 v W = (True)) ∧ (∀ v W, V 9 v W = (v = .pointer (some ⟨ob, 3, none⟩))) ∧ (∀ v W, V 10 v W = (True)) := by
    refine ⟨fun i v W => match i with
      | 0 => v = .pointer (some ⟨ob, 3, none⟩)
      | 1 => v = sv
      | 2 => v = .pointer (some ⟨p, 0, none⟩)
      | 3 => v = .int .i64 (unfoldN n1)
      | 4 => v = .pointer (some ⟨p, 0, none⟩)
      | 5 => v = .int .i64 (unfoldN n2)
      | 6 => v = .agg #[.int .i64 (unfoldN n1), .int .i64 (unfoldN n2)]
      | 7 => True
      | 8 => True
      | 9 => v = .pointer (some ⟨ob, 3, none⟩)
      | 10 => True
      | _ => True, ?_, fun _ _ => rfl, fun _ _ => rfl, fun _ _ => rfl, fun _ _ => rfl, fun _ _ => rfl, fun _ _ => rfl, fun _ _ => rfl, fun _ _ => rfl, fun _ _ => rfl, fun _ _ => rfl, fun _ _ => rfl⟩
    intro i v W W' h hb
    rw [hR] at hb
    match i, h with
    | 0, h => exact h
    | 1, h => exact h
    | 2, h => exact h
    | 3, h => exact h
    | 4, h => exact h
    | 5, h => exact h
    | 6, h => exact h
    | 7, h => exact h
    | 8, h => exact h
    | 9, h => exact h
    | 10, h => exact h
    | _ + 11, _ => trivial
  obtain ⟨T, hTC, hTS, t0, t1, t2, t3, t4, t5⟩ : ∃ T : Nat → (Nat → Value) → World → Prop, (∀ m X W, T m X W → (Fr W0 W (fun k => k = p ∨ sv.ownBlock = some k ∨ k = ob))) ∧ (∀ m X X' W, (∀ i, i < 11 → ([none, none, none, some 0, none, some 1, none, some 2, some 3, none, some 4] : List (Option Nat)).getD i none ≠ none → X (ds.getD i 0) = X' (ds.getD i 0)) → T m X W → T m X' W) ∧ (∀ X W, T 0 X W = (Below W0.heap.size W0 W)) ∧ (∀ X W, T 1 X W = (Rd W p s x1 y1 ∧ Fr W0 W (fun k => k = p))) ∧ (∀ X W, T 2 X W = (Rd W p s x2 y2 ∧ Fr W0 W (fun k => k = p))) ∧ (∀ X W, T 3 X W = (Rd W p s x2 y2 ∧ Fr W0 W (fun k => k = p) ∧ (∃ g, X 27 = .slice (some ⟨g, 0, none⟩) 1 1 ∧ W.heap[g]? = some (.cells #[.int .i64 (unfoldN n1), .int .i64 (unfoldN n2)] 101 (0, 0)) ∧ W0.heap.size ≤ g))) ∧ (∀ X W, T 4 X W = (Rd W p s x2 y2 ∧ KVT W 101 base (X 28) (L ++ [⟨unfoldN n1, unfoldN n2⟩]) ∧ (∀ k, (X 28).ownBlock = some k → sv.ownBlock = some k ∨ W0.heap.size ≤ k) ∧ Fr W0 W (fun k => k = p ∨ sv.ownBlock = some k))) ∧ (∀ X W, T 5 X W = (Rd W p s x2 y2 ∧ KVT W 101 base (X 28) (L ++ [⟨unfoldN n1, unfoldN n2⟩]) ∧ (∀ k, (X 28).ownBlock = some k → sv.ownBlock = some k ∨ W0.heap.size ≤ k) ∧ OcBoxT W 32 ob #[b0, b1, b2, X 28] ∧ Fr W0 W (fun k => k = p ∨ sv.ownBlock = some k ∨ k = ob))) := by
    refine ⟨fun m X W => match m with
      | 0 => Below W0.heap.size W0 W
      | 1 => Rd W p s x1 y1 ∧ Fr W0 W (fun k => k = p)
      | 2 => Rd W p s x2 y2 ∧ Fr W0 W (fun k => k = p)
      | 3 => Rd W p s x2 y2 ∧ Fr W0 W (fun k => k = p) ∧ (∃ g, X 27 = .slice (some ⟨g, 0, none⟩) 1 1 ∧ W.heap[g]? = some (.cells #[.int .i64 (unfoldN n1), .int .i64 (unfoldN n2)] 101 (0, 0)) ∧ W0.heap.size ≤ g)
      | 4 => Rd W p s x2 y2 ∧ KVT W 101 base (X 28) (L ++ [⟨unfoldN n1, unfoldN n2⟩]) ∧ (∀ k, (X 28).ownBlock = some k → sv.ownBlock = some k ∨ W0.heap.size ≤ k) ∧ Fr W0 W (fun k => k = p ∨ sv.ownBlock = some k)
      | 5 => Rd W p s x2 y2 ∧ KVT W 101 base (X 28) (L ++ [⟨unfoldN n1, unfoldN n2⟩]) ∧ (∀ k, (X 28).ownBlock = some k → sv.ownBlock = some k ∨ W0.heap.size ≤ k) ∧ OcBoxT W 32 ob #[b0, b1, b2, X 28] ∧ Fr W0 W (fun k => k = p ∨ sv.ownBlock = some k ∨ k = ob)
      | _ => False, ?_, ?_, fun _ _ => rfl, fun _ _ => rfl, fun _ _ => rfl, fun _ _ => rfl, fun _ _ => rfl, fun _ _ => rfl⟩
    · intro m X W h
      match m, h with
      | 0, h => exact Fr.ofBelow h _
      | 1, h => exact h.2.mono (fun _ _ h => .inl h)
      | 2, h => exact h.2.mono (fun _ _ h => .inl h)
      | 3, h => exact h.2.1.mono (fun _ _ h => .inl h)
      | 4, h => exact h.2.2.2.mono (fun _ _ h => by rcases h with h | h; exact .inl h; exact .inr (.inl h))
      | 5, h => exact h.2.2.2.2
    · intro m X X' W he h
      have q7 := he 7 (by decide) (by decide)
      rw [g7] at q7
      have q8 := he 8 (by decide) (by decide)
      rw [g8] at q8
      match m, h with
      | 0, h => exact h
      | 1, h => exact h
      | 2, h => exact h
      | 3, h => 
        have h2 : Rd W p s x2 y2 ∧ Fr W0 W (fun k => k = p) ∧ (∃ g, X 27 = .slice (some ⟨g, 0, none⟩) 1 1 ∧ W.heap[g]? = some (.cells #[.int .i64 (unfoldN n1), .int .i64 (unfoldN n2)] 101 (0, 0)) ∧ W0.heap.size ≤ g) := h
        show Rd W p s x2 y2 ∧ Fr W0 W (fun k => k = p) ∧ (∃ g, X' 27 = .slice (some ⟨g, 0, none⟩) 1 1 ∧ W.heap[g]? = some (.cells #[.int .i64 (unfoldN n1), .int .i64 (unfoldN n2)] 101 (0, 0)) ∧ W0.heap.size ≤ g)
        rw [← q7]
        exact h2
      | 4, h => 
        have h2 : Rd W p s x2 y2 ∧ KVT W 101 base (X 28) (L ++ [⟨unfoldN n1, unfoldN n2⟩]) ∧ (∀ k, (X 28).ownBlock = some k → sv.ownBlock = some k ∨ W0.heap.size ≤ k) ∧ Fr W0 W (fun k => k = p ∨ sv.ownBlock = some k) := h
        show Rd W p s x2 y2 ∧ KVT W 101 base (X' 28) (L ++ [⟨unfoldN n1, unfoldN n2⟩]) ∧ (∀ k, (X' 28).ownBlock = some k → sv.ownBlock = some k ∨ W0.heap.size ≤ k) ∧ Fr W0 W (fun k => k = p ∨ sv.ownBlock = some k)
        rw [← q8]
        exact h2
      | 5, h => 
        have h2 : Rd W p s x2 y2 ∧ KVT W 101 base (X 28) (L ++ [⟨unfoldN n1, unfoldN n2⟩]) ∧ (∀ k, (X 28).ownBlock = some k → sv.ownBlock = some k ∨ W0.heap.size ≤ k) ∧ OcBoxT W 32 ob #[b0, b1, b2, X 28] ∧ Fr W0 W (fun k => k = p ∨ sv.ownBlock = some k ∨ k = ob) := h
        show Rd W p s x2 y2 ∧ KVT W 101 base (X' 28) (L ++ [⟨unfoldN n1, unfoldN n2⟩]) ∧ (∀ k, (X' 28).ownBlock = some k → sv.ownBlock = some k ∨ W0.heap.size ≤ k) ∧ OcBoxT W 32 ob #[b0, b1, b2, X' 28] ∧ Fr W0 W (fun k => k = p ∨ sv.ownBlock = some k ∨ k = ob)
        rw [← q8]
        exact h2
  conv => arg 2; whnf
  refine wp_region_T ds [none, none, none, some 0, none, some 1, none, some 2, some 3, none, some 4] 5 V T R (by kernel_rfl) (by kernel_rfl) (by rw [hsz]; decide) (by rw [← hds]; kernel_rfl) (by kernel_rfl) hV hTS ?_ ?_ ?_
  · rw [t0]; exact below_drewK _
  · refine ⟨⟨?_, ?_⟩, ⟨?_, ?_⟩, ⟨?_, ?_⟩, ⟨?_, ?_⟩, ⟨?_, ?_⟩, ⟨?_, ?_⟩, ⟨?_, ?_⟩, ⟨?_, ?_⟩, ⟨?_, ?_⟩, ⟨?_, ?_⟩, ⟨?_, ?_⟩, trivial⟩
    · intro _ X W m hTm hw hd hu
      have hC := hTC _ _ _ hTm
      have h0 := hout (X := X) (k := 5) (by decide)
      rw [hA5] at h0
      refine op_value (v := .pointer (some ⟨ob, 3, none⟩)) (w' := W) ?_ ⟨_, rfl, by rw [e0], hTm, by rw [hR]; trivial⟩
      generalize (puts A X ds).eval = ρ at h0 ⊢
      go_simp
    · intro m h; have h' : (none : Option Nat) = some m := h; cases h'
    · intro _ X W m hTm hw hd hu
      have hC := hTC _ _ _ hTm
      have d0 := hd 0 (by kernel_rfl)
      rw [e0, g0] at d0
      have h0 := (hin (X := X) (k := 20) (by decide) (by decide)).trans d0
      have cc := (oc_cells hOc).2.2.2
      have hz := hw 8 3 (by decide) rfl (by kernel_rfl)
      have c0 : W.cell? ⟨ob, 3, none⟩ = some sv := by
        match m, hz, hTm with
        | 0, _, h => rw [t0] at h; exact fr_cell (Fr.ofBelow h (fun _ => False)) (fun h => h) cc
        | 1, _, h => rw [t1] at h; exact fr_cell h.2 hpo cc
        | 2, _, h => rw [t2] at h; exact fr_cell h.2 hpo cc
        | 3, _, h => rw [t3] at h; exact fr_cell h.2.1 hpo cc
      refine op_value (v := sv) (w' := W) ?_ ⟨_, rfl, by rw [e1], hTm, by rw [hR]; trivial⟩
      generalize (puts A X ds).eval = ρ at h0 ⊢
      go_simp
    · intro m h; have h' : (none : Option Nat) = some m := h; cases h'
    · intro _ X W m hTm hw hd hu
      have hC := hTC _ _ _ hTm
      have h0 := hout (X := X) (k := 4) (by decide)
      rw [hA4] at h0
      refine op_value (v := .pointer (some ⟨p, 0, none⟩)) (w' := W) ?_ ⟨_, rfl, by rw [e2], hTm, by rw [hR]; trivial⟩
      generalize (puts A X ds).eval = ρ at h0 ⊢
      go_simp
    · intro m h; have h' : (none : Option Nat) = some m := h; cases h'
    · intro h; have h' : (some 0 : Option Nat) = none := h; cases h'
    · intro m hm0 X W hTm hd hu
      have hm1 : some 0 = some m := hm0
      cases hm1
      have hC := hTC _ _ _ hTm
      have d0 := hd 2 (by kernel_rfl)
      rw [e2, g2] at d0
      have h0 := (hin (X := X) (k := 22) (by decide) (by decide)).trans d0
      rw [t0] at hTm
      have hf : (puts A X ds).eval (.func 71) = .func (.func 71) #[] #[] := rfl
      refine op_call (f := 71) (vs := #[.pointer (some ⟨p, 0, none⟩)]) ?_ ?_
      · generalize (puts A X ds).eval = ρ at h0 hf ⊢
        go_simp
      · refine (r_sg (hRd.below hTm) hs hx hq1).mono ?_
        rintro r W' ⟨rfl, hr, hf'⟩
        exact ⟨_, rfl, _, rfl, by rw [e3], by rw [t1]; exact ⟨hr, (Fr.ofBelow hTm _).trans hf' (fun _ _ h => h)⟩, by rw [hR]; trivial⟩
    · intro _ X W m hTm hw hd hu
      have hC := hTC _ _ _ hTm
      have h0 := hout (X := X) (k := 4) (by decide)
      rw [hA4] at h0
      refine op_value (v := .pointer (some ⟨p, 0, none⟩)) (w' := W) ?_ ⟨_, rfl, by rw [e4], hTm, by rw [hR]; trivial⟩
      generalize (puts A X ds).eval = ρ at h0 ⊢
      go_simp
    · intro m h; have h' : (none : Option Nat) = some m := h; cases h'
    · intro h; have h' : (some 1 : Option Nat) = none := h; cases h'
    · intro m hm0 X W hTm hd hu
      have hm1 : some 1 = some m := hm0
      cases hm1
      have hC := hTC _ _ _ hTm
      have d0 := hd 4 (by kernel_rfl)
      rw [e4, g4] at d0
      have h0 := (hin (X := X) (k := 24) (by decide) (by decide)).trans d0
      rw [t1] at hTm
      have hf : (puts A X ds).eval (.func 71) = .func (.func 71) #[] #[] := rfl
      refine op_call (f := 71) (vs := #[.pointer (some ⟨p, 0, none⟩)]) ?_ ?_
      · generalize (puts A X ds).eval = ρ at h0 hf ⊢
        go_simp
      · refine (r_sg hTm.1 hs hx1 hq2).mono ?_
        rintro r W' ⟨rfl, hr, hf'⟩
        exact ⟨_, rfl, _, rfl, by rw [e5], by rw [t2]; exact ⟨hr, hTm.2.trans hf' (fun _ _ h => h)⟩, by rw [hR]; trivial⟩
    · intro _ X W m hTm hw hd hu
      have hC := hTC _ _ _ hTm
      have d0 := hd 3 (by kernel_rfl)
      rw [e3, g3] at d0
      have h0 := (hin (X := X) (k := 23) (by decide) (by decide)).trans d0
      have d1 := hd 5 (by kernel_rfl)
      rw [e5, g5] at d1
      have h1 := (hin (X := X) (k := 25) (by decide) (by decide)).trans d1
      refine op_value (v := .agg #[.int .i64 (unfoldN n1), .int .i64 (unfoldN n2)]) (w' := W) ?_ ⟨_, rfl, by rw [e6], hTm, by rw [hR]; trivial⟩
      generalize (puts A X ds).eval = ρ at h0 h1 ⊢
      go_simp
    · intro m h; have h' : (none : Option Nat) = some m := h; cases h'
    · intro h; have h' : (some 2 : Option Nat) = none := h; cases h'
    · intro m hm0 X W hTm hd hu
      have hm1 : some 2 = some m := hm0
      cases hm1
      have hC := hTC _ _ _ hTm
      have d0 := hd 6 (by kernel_rfl)
      rw [e6, g6] at d0
      have h0 := (hin (X := X) (k := 26) (by decide) (by decide)).trans d0
      rw [t2] at hTm
      have hb1 : Below W.heap.size W (W.alloc (.cells #[.int .i64 (unfoldN n1), .int .i64 (unfoldN n2)] 101)) := one_new _ _
      refine op_value (v := .slice (some ⟨W.heap.size, 0, none⟩) 1 1) (w' := W.alloc (.cells #[.int .i64 (unfoldN n1), .int .i64 (unfoldN n2)] 101)) ?_ ⟨_, rfl, by rw [e7]; trivial, ?_, by rw [hR]; trivial⟩
      · generalize (puts A X ds).eval = ρ at h0 ⊢
        go_simp
      · rw [t3, g7, upd_at]
        exact ⟨hTm.1.below hb1, hTm.2.trans (Fr.ofBelow hb1 _) (fun _ _ h => h), _, rfl, heap_alloc_new _ _, hTm.2.size⟩
    · intro h; have h' : (some 3 : Option Nat) = none := h; cases h'
    · intro m hm0 X W hTm hd hu
      have hm1 : some 3 = some m := hm0
      cases hm1
      have hC := hTC _ _ _ hTm
      have d0 := hd 1 (by kernel_rfl)
      rw [e1, g1] at d0
      have h0 := (hin (X := X) (k := 21) (by decide) (by decide)).trans d0
      have h1 := hin (X := X) (k := 27) (by decide) (by decide)
      rw [t3] at hTm
      obtain ⟨hr, hf, g, hX, hg, hgl⟩ := hTm
      rw [hX] at h1
      obtain ⟨i0, hi, hz0, hz1, hz2⟩ := info_parts infoRV
      refine op_appendR 30 101 rfl i0 _ 2 16 Tryz.underlying30 hi hz0 hz1 hz2 rfl (by decide) base sv L.length (ecs L) h0 (k_keep hKV hf (fun k hk e => hps (e ▸ hk))) h1 (one_row hg) rfl (by simp [Value.oneCell']) (by unfold maxLen; omega) (by omega) (Nat.le_trans hbase hf.size) ?_
      intro v' W' hown hgr hat
      have hfr := Fr.grown hgr (S := fun k => sv.ownBlock = some k) (fun k hk => hk)
      refine ⟨v', rfl, by rw [e8]; trivial, ?_, by rw [hR]; trivial⟩
      rw [t4, g8, upd_at]
      refine ⟨hr.kept hfr hps, kv_app hown, fun k hk => ?_, (hf.mono (fun _ _ h => .inl h)).trans hfr (fun _ _ h => .inr h)⟩
      rcases hat with e | e
      · rw [e] at hk; exact .inl hk
      · rw [e] at hk; cases hk; exact .inr hf.size
    · intro _ X W m hTm hw hd hu
      have hC := hTC _ _ _ hTm
      have h0 := hout (X := X) (k := 5) (by decide)
      rw [hA5] at h0
      refine op_value (v := .pointer (some ⟨ob, 3, none⟩)) (w' := W) ?_ ⟨_, rfl, by rw [e9], hTm, by rw [hR]; trivial⟩
      generalize (puts A X ds).eval = ρ at h0 ⊢
      go_simp
    · intro m h; have h' : (none : Option Nat) = some m := h; cases h'
    · intro h; have h' : (some 4 : Option Nat) = none := h; cases h'
    · intro m hm0 X W hTm hd hu
      have hm1 : some 4 = some m := hm0
      cases hm1
      have hC := hTC _ _ _ hTm
      have d0 := hd 9 (by kernel_rfl)
      rw [e9, g9] at d0
      have h0 := (hin (X := X) (k := 29) (by decide) (by decide)).trans d0
      have h1 := hin (X := X) (k := 28) (by decide) (by decide)
      rw [t4] at hTm
      obtain ⟨hr, hk1, hl1, hf⟩ := hTm
      have hbx : OcBoxT W 32 ob #[b0, b1, b2, sv] := oc_fr hf (fun e => by rcases e with e | e; exact hpo e; exact hos e) hOc
      have q0 := (oc_cells hbx).2.2.2
      have q1 : W.frozen? ⟨ob, 3, none⟩ = false := oc_froz hbx
      have hfr := Fr.setCell (S := fun k => k = ob) W ⟨ob, 3, none⟩ (X 28) rfl
      obtain ⟨ax, cx, hsx⟩ := k_shape hk1
      have hax := hl1 ob
      refine op_skip (w' := W.setCell ⟨ob, 3, none⟩ (X 28)) ?_ ⟨_, rfl, by rw [e10]; trivial, ?_, by rw [hR]; trivial⟩
      · rw [hsx] at h1 ⊢
        generalize (puts A X ds).eval = ρ at h0 h1 ⊢
        go_simp
      · rw [t5, g10, upd_ne _ _ (by decide)]
        have hnb : ¬ (X 28).ownBlock = some ob := fun e => by
          rcases hax e with h | h
          · exact hos h
          · have := (Array.getElem?_eq_some_iff.1 hOc).1; omega
        exact ⟨hr.kept hfr (fun e => hpo e.symm), k_keep hk1 hfr (fun k hk e => hnb (e ▸ hk)), hl1, oc_set hbx _, (hf.mono (fun _ _ h => by rcases h with h | h; exact .inl h; exact .inr (.inl h))).trans hfr (fun _ _ h => .inr (.inr h))⟩
  · intro X W hall hTm
    have r0 := hall 0 (by decide)
    rw [e0, g0] at r0
    have r1 := hall 1 (by decide)
    rw [e1, g1] at r1
    have r2 := hall 2 (by decide)
    rw [e2, g2] at r2
    have r3 := hall 3 (by decide)
    rw [e3, g3] at r3
    have r4 := hall 4 (by decide)
    rw [e4, g4] at r4
    have r5 := hall 5 (by decide)
    rw [e5, g5] at r5
    have r6 := hall 6 (by decide)
    rw [e6, g6] at r6
    have r9 := hall 9 (by decide)
    rw [e9, g9] at r9
    rw [t5] at hTm
    have := HK X W hTm
    rw [hds] at this
    exact this
set_option maxRecDepth 100000 in
set_option maxHeartbeats 2000000 in
theorem out_r5 {W0 : World} {A : Act} {sv b0 b1 b2 : Value} {ib ob b off base j vn vc : Nat} {z : Ed} {L : List Ed} {Q : Exit → Act → World → Prop} (hsz : A.tmps.size = 38) (hA1 : A.eval (.tmp 1) = .pointer (some ⟨ib, 0, none⟩)) (hA3 : A.eval (.tmp 3) = .pointer (some ⟨ob, 0, none⟩)) (hA4 : A.eval (.tmp 4) = .int .i64 j) (hI3 : W0.cell? ⟨ib, 3, none⟩ = some (.slice (some ⟨b, off, none⟩) vn vc)) (hjn : j < vn) (hZ0 : W0.cell? ⟨b, off + j * 2, none⟩ = some (.int .i64 z.t)) (hZ1 : W0.cell? ⟨b, off + j * 2 + 1, none⟩ = some (.int .i64 z.w)) (hib : ¬ (False ∨ sv.ownBlock = some ib ∨ ib = ob)) (hbb : ¬ (False ∨ sv.ownBlock = some b ∨ b = ob)) (hOc : OcBoxT W0 45 ob #[b0, b1, b2, sv]) (hKV : KVT W0 123 base sv L) (hbase : base ≤ W0.heap.size) (hos : ¬ sv.ownBlock = some ob) (hlen : L.length ≤ 256)
    (HK : ∀ X W, KVT W 123 base (X 35) (L ++ [z]) ∧ (∀ k, (X 35).ownBlock = some k → sv.ownBlock = some k ∨ W0.heap.size ≤ k) ∧ OcBoxT W 45 ob #[b0, b1, b2, X 35] ∧ Fr W0 W (fun k => False ∨ sv.ownBlock = some k ∨ k = ob) → Q .normal (puts A X [19, 20, 21, 22, 23, 24, 25, 26, 27, 28, 29, 30, 31, 32, 33, 34, 35, 36, 1000018]) W) :
    Code.wp Tryz.prog ((Tryz.f16.body.bind (regionJ 5)).getD .skip) Q A W0 := by
  obtain ⟨ds, hds⟩ : ∃ ds, [19, 20, 21, 22, 23, 24, 25, 26, 27, 28, 29, 30, 31, 32, 33, 34, 35, 36, 1000018] = ds := ⟨_, rfl⟩
  have hin : ∀ {X : Nat → Value} {k : Nat}, k ∈ [19, 20, 21, 22, 23, 24, 25, 26, 27, 28, 29, 30, 31, 32, 33, 34, 35, 36, 1000018] → k < 38 → (puts A X ds).eval (.tmp k) = X k := fun hk hl => by rw [← hds]; exact eval_in hk (by rw [hsz]; exact hl)
  have hout : ∀ {X : Nat → Value} {k : Nat}, k ∉ [19, 20, 21, 22, 23, 24, 25, 26, 27, 28, 29, 30, 31, 32, 33, 34, 35, 36, 1000018] → (puts A X ds).eval (.tmp k) = A.eval (.tmp k) := fun hk => by rw [← hds]; exact eval_out hk
  have g0 : ds.getD 0 0 = 19 := by rw [← hds]; rfl
  have g1 : ds.getD 1 0 = 20 := by rw [← hds]; rfl
  have g2 : ds.getD 2 0 = 21 := by rw [← hds]; rfl
  have g3 : ds.getD 3 0 = 22 := by rw [← hds]; rfl
  have g4 : ds.getD 4 0 = 23 := by rw [← hds]; rfl
  have g5 : ds.getD 5 0 = 24 := by rw [← hds]; rfl
  have g6 : ds.getD 6 0 = 25 := by rw [← hds]; rfl
  have g7 : ds.getD 7 0 = 26 := by rw [← hds]; rfl
  have g8 : ds.getD 8 0 = 27 := by rw [← hds]; rfl
  have g9 : ds.getD 9 0 = 28 := by rw [← hds]; rfl
  have g10 : ds.getD 10 0 = 29 := by rw [← hds]; rfl
  have g11 : ds.getD 11 0 = 30 := by rw [← hds]; rfl
  have g12 : ds.getD 12 0 = 31 := by rw [← hds]; rfl
  have g13 : ds.getD 13 0 = 32 := by rw [← hds]; rfl
  have g14 : ds.getD 14 0 = 33 := by rw [← hds]; rfl
  have g15 : ds.getD 15 0 = 34 := by rw [← hds]; rfl
  have g16 : ds.getD 16 0 = 35 := by rw [← hds]; rfl
  have g17 : ds.getD 17 0 = 36 := by rw [← hds]; rfl
  have g18 : ds.getD 18 0 = 1000018 := by rw [← hds]; rfl
  obtain ⟨R, hR⟩ : ∃ R : World → World → Prop, ∀ W W', R W W' = (True) := ⟨fun W W' => True, fun _ _ => rfl⟩
  obtain ⟨V, hV, e0, e1, e2, e3, e4, e5, e6, e7, e8, e9, e10, e11, e12, e13, e14, e15, e16, e17, e18⟩ : ∃ V : Nat → Value → World → Prop, (∀ i v W W', V i v W → R W W' → V i v W') ∧ (∀ v W, V 0 v W = (v = .pointer (some ⟨ob, 3, none⟩))) ∧ (∀ v W, V 1 v W = (v = sv)) ∧ (∀ v W, V 2 v W = (v = .pointer (some ⟨ib, 3, none⟩))) ∧ (∀ v W, V 3 v W = (v = .slice (some ⟨b, off, none⟩) vn vc)) ∧ (∀ v W, V 4 v W = (v = .int .i64 j)) ∧ (∀ v W, V 5 v W = (v = .pointer (some ⟨b, off + j * 2, none⟩))) ∧ (∀ v W, V 6 v W = (v = .pointer (some ⟨b, off + j * 2, none⟩))) ∧ (∀ v W, V 7 v W = (v = .int .i64 z.t)) ∧ (∀ v W, V 8 v W = (v = .pointer (some ⟨ib, 3, none⟩))) ∧ (∀ v W, V 9 v W = (v = .slice (some ⟨b, off, none⟩) vn vc)) ∧ (∀ v W, V 10 v W = (v = .int .i64 j)) ∧ (∀ v W, V 11 v W = (v = .pointer (some ⟨b, off + j * 2, none⟩))) ∧ (∀ v W, V 12 v W = (v = .pointer (some ⟨b, off + j * 2 + 1, none⟩))) ∧ (∀ v W, V 13 v W = (v = .int .i64 z.w)) ∧ (∀ v W, V 14 v W = (v = .agg #[.int .i64 z.t, .int .i64 z.w])) ∧ (∀ v W, V 15 v W = (True)) ∧ (∀ v W, V 16 v W = (True)) ∧ (∀ v W, V 17 v W = (v = .pointer (some ⟨ob, 3, none⟩))) ∧ (∀ v W, V 18 v W = (True)) := by
    refine ⟨fun i v W => match i with
      | 0 => v = .pointer (some ⟨ob, 3, none⟩)
      | 1 => v = sv
      | 2 => v = .pointer (some ⟨ib, 3, none⟩)
      | 3 => v = .slice (some ⟨b, off, none⟩) vn vc
      | 4 => v = .int .i64 j
      | 5 => v = .pointer (some ⟨b, off + j * 2, none⟩)
      | 6 => v = .pointer (some ⟨b, off + j * 2, none⟩)
      | 7 => v = .int .i64 z.t
      | 8 => v = .pointer (some ⟨ib, 3, none⟩)
      | 9 => v = .slice (some ⟨b, off, none⟩) vn vc
      | 10 => v = .int .i64 j
      | 11 => v = .pointer (some ⟨b, off + j * 2, none⟩)
      | 12 => v = .pointer (some ⟨b, off + j * 2 + 1, none⟩)
      | 13 => v = .int .i64 z.w
      | 14 => v = .agg #[.int .i64 z.t, .int .i64 z.w]
      | 15 => True
      | 16 => True
      | 17 => v = .pointer (some ⟨ob, 3, none⟩)
      | 18 => True
      | _ => True, ?_, fun _ _ => rfl, fun _ _ => rfl, fun _ _ => rfl, fun _ _ => rfl, fun _ _ => rfl, fun _ _ => rfl, fun _ _ => rfl, fun _ _ => rfl, fun _ _ => rfl, fun _ _ => rfl, fun _ _ => rfl, fun _ _ => rfl, fun _ _ => rfl, fun _ _ => rfl, fun _ _ => rfl, fun _ _ => rfl, fun _ _ => rfl, fun _ _ => rfl, fun _ _ => rfl⟩
    intro i v W W' h hb
    rw [hR] at hb
    match i, h with
    | 0, h => exact h
    | 1, h => exact h
    | 2, h => exact h
    | 3, h => exact h
    | 4, h => exact h
    | 5, h => exact h
    | 6, h => exact h
    | 7, h => exact h
    | 8, h => exact h
    | 9, h => exact h
    | 10, h => exact h
    | 11, h => exact h
    | 12, h => exact h
    | 13, h => exact h
    | 14, h => exact h
    | 15, h => exact h
    | 16, h => exact h
    | 17, h => exact h
    | 18, h => exact h
    | _ + 19, _ => trivial
  obtain ⟨T, hTC, hTS, t0, t1, t2, t3⟩ : ∃ T : Nat → (Nat → Value) → World → Prop, (∀ m X W, T m X W → (Fr W0 W (fun k => False ∨ sv.ownBlock = some k ∨ k = ob))) ∧ (∀ m X X' W, (∀ i, i < 19 → ([none, none, none, none, none, none, none, none, none, none, none, none, none, none, none, some 0, some 1, none, some 2] : List (Option Nat)).getD i none ≠ none → X (ds.getD i 0) = X' (ds.getD i 0)) → T m X W → T m X' W) ∧ (∀ X W, T 0 X W = (Below W0.heap.size W0 W)) ∧ (∀ X W, T 1 X W = (Fr W0 W (fun k => False) ∧ (∃ g, X 34 = .slice (some ⟨g, 0, none⟩) 1 1 ∧ W.heap[g]? = some (.cells #[.int .i64 z.t, .int .i64 z.w] 123 (0, 0)) ∧ W0.heap.size ≤ g))) ∧ (∀ X W, T 2 X W = (KVT W 123 base (X 35) (L ++ [z]) ∧ (∀ k, (X 35).ownBlock = some k → sv.ownBlock = some k ∨ W0.heap.size ≤ k) ∧ Fr W0 W (fun k => False ∨ sv.ownBlock = some k))) ∧ (∀ X W, T 3 X W = (KVT W 123 base (X 35) (L ++ [z]) ∧ (∀ k, (X 35).ownBlock = some k → sv.ownBlock = some k ∨ W0.heap.size ≤ k) ∧ OcBoxT W 45 ob #[b0, b1, b2, X 35] ∧ Fr W0 W (fun k => False ∨ sv.ownBlock = some k ∨ k = ob))) := by
    refine ⟨fun m X W => match m with
      | 0 => Below W0.heap.size W0 W
      | 1 => Fr W0 W (fun k => False) ∧ (∃ g, X 34 = .slice (some ⟨g, 0, none⟩) 1 1 ∧ W.heap[g]? = some (.cells #[.int .i64 z.t, .int .i64 z.w] 123 (0, 0)) ∧ W0.heap.size ≤ g)
      | 2 => KVT W 123 base (X 35) (L ++ [z]) ∧ (∀ k, (X 35).ownBlock = some k → sv.ownBlock = some k ∨ W0.heap.size ≤ k) ∧ Fr W0 W (fun k => False ∨ sv.ownBlock = some k)
      | 3 => KVT W 123 base (X 35) (L ++ [z]) ∧ (∀ k, (X 35).ownBlock = some k → sv.ownBlock = some k ∨ W0.heap.size ≤ k) ∧ OcBoxT W 45 ob #[b0, b1, b2, X 35] ∧ Fr W0 W (fun k => False ∨ sv.ownBlock = some k ∨ k = ob)
      | _ => False, ?_, ?_, fun _ _ => rfl, fun _ _ => rfl, fun _ _ => rfl, fun _ _ => rfl⟩
    · intro m X W h
      match m, h with
      | 0, h => exact Fr.ofBelow h _
      | 1, h => exact h.1.mono (fun _ _ h => .inl h)
      | 2, h => exact h.2.2.mono (fun _ _ h => by rcases h with h | h; exact .inl h; exact .inr (.inl h))
      | 3, h => exact h.2.2.2
    · intro m X X' W he h
      have q15 := he 15 (by decide) (by decide)
      rw [g15] at q15
      have q16 := he 16 (by decide) (by decide)
      rw [g16] at q16
      match m, h with
      | 0, h => exact h
      | 1, h => 
        have h2 : Fr W0 W (fun k => False) ∧ (∃ g, X 34 = .slice (some ⟨g, 0, none⟩) 1 1 ∧ W.heap[g]? = some (.cells #[.int .i64 z.t, .int .i64 z.w] 123 (0, 0)) ∧ W0.heap.size ≤ g) := h
        show Fr W0 W (fun k => False) ∧ (∃ g, X' 34 = .slice (some ⟨g, 0, none⟩) 1 1 ∧ W.heap[g]? = some (.cells #[.int .i64 z.t, .int .i64 z.w] 123 (0, 0)) ∧ W0.heap.size ≤ g)
        rw [← q15]
        exact h2
      | 2, h => 
        have h2 : KVT W 123 base (X 35) (L ++ [z]) ∧ (∀ k, (X 35).ownBlock = some k → sv.ownBlock = some k ∨ W0.heap.size ≤ k) ∧ Fr W0 W (fun k => False ∨ sv.ownBlock = some k) := h
        show KVT W 123 base (X' 35) (L ++ [z]) ∧ (∀ k, (X' 35).ownBlock = some k → sv.ownBlock = some k ∨ W0.heap.size ≤ k) ∧ Fr W0 W (fun k => False ∨ sv.ownBlock = some k)
        rw [← q16]
        exact h2
      | 3, h => 
        have h2 : KVT W 123 base (X 35) (L ++ [z]) ∧ (∀ k, (X 35).ownBlock = some k → sv.ownBlock = some k ∨ W0.heap.size ≤ k) ∧ OcBoxT W 45 ob #[b0, b1, b2, X 35] ∧ Fr W0 W (fun k => False ∨ sv.ownBlock = some k ∨ k = ob) := h
        show KVT W 123 base (X' 35) (L ++ [z]) ∧ (∀ k, (X' 35).ownBlock = some k → sv.ownBlock = some k ∨ W0.heap.size ≤ k) ∧ OcBoxT W 45 ob #[b0, b1, b2, X' 35] ∧ Fr W0 W (fun k => False ∨ sv.ownBlock = some k ∨ k = ob)
        rw [← q16]
        exact h2
  conv => arg 2; whnf
  refine wp_region_T ds [none, none, none, none, none, none, none, none, none, none, none, none, none, none, none, some 0, some 1, none, some 2] 3 V T R (by kernel_rfl) (by kernel_rfl) (by rw [hsz]; decide) (by rw [← hds]; kernel_rfl) (by kernel_rfl) hV hTS ?_ ?_ ?_
  · rw [t0]; exact below_drewK _
  · refine ⟨⟨?_, ?_⟩, ⟨?_, ?_⟩, ⟨?_, ?_⟩, ⟨?_, ?_⟩, ⟨?_, ?_⟩, ⟨?_, ?_⟩, ⟨?_, ?_⟩, ⟨?_, ?_⟩, ⟨?_, ?_⟩, ⟨?_, ?_⟩, ⟨?_, ?_⟩, ⟨?_, ?_⟩, ⟨?_, ?_⟩, ⟨?_, ?_⟩, ⟨?_, ?_⟩, ⟨?_, ?_⟩, ⟨?_, ?_⟩, ⟨?_, ?_⟩, ⟨?_, ?_⟩, trivial⟩
    · intro _ X W m hTm hw hd hu
      have hC := hTC _ _ _ hTm
      have h0 := hout (X := X) (k := 3) (by decide)
      rw [hA3] at h0
      refine op_value (v := .pointer (some ⟨ob, 3, none⟩)) (w' := W) ?_ ⟨_, rfl, by rw [e0], hTm, by rw [hR]; trivial⟩
      generalize (puts A X ds).eval = ρ at h0 ⊢
      go_simp
    · intro m h; have h' : (none : Option Nat) = some m := h; cases h'
    · intro _ X W m hTm hw hd hu
      have hC := hTC _ _ _ hTm
      have d0 := hd 0 (by kernel_rfl)
      rw [e0, g0] at d0
      have h0 := (hin (X := X) (k := 19) (by decide) (by decide)).trans d0
      have cc := (oc_cells hOc).2.2.2
      have hz := hw 16 1 (by decide) rfl (by kernel_rfl)
      have c0 : W.cell? ⟨ob, 3, none⟩ = some sv := by
        match m, hz, hTm with
        | 0, _, h => rw [t0] at h; exact fr_cell (Fr.ofBelow h (fun _ => False)) (fun h => h) cc
        | 1, _, h => rw [t1] at h; exact fr_cell h.1 (fun h => h) cc
      refine op_value (v := sv) (w' := W) ?_ ⟨_, rfl, by rw [e1], hTm, by rw [hR]; trivial⟩
      generalize (puts A X ds).eval = ρ at h0 ⊢
      go_simp
    · intro m h; have h' : (none : Option Nat) = some m := h; cases h'
    · intro _ X W m hTm hw hd hu
      have hC := hTC _ _ _ hTm
      have h0 := hout (X := X) (k := 1) (by decide)
      rw [hA1] at h0
      refine op_value (v := .pointer (some ⟨ib, 3, none⟩)) (w' := W) ?_ ⟨_, rfl, by rw [e2], hTm, by rw [hR]; trivial⟩
      generalize (puts A X ds).eval = ρ at h0 ⊢
      go_simp
    · intro m h; have h' : (none : Option Nat) = some m := h; cases h'
    · intro _ X W m hTm hw hd hu
      have hC := hTC _ _ _ hTm
      have d0 := hd 2 (by kernel_rfl)
      rw [e2, g2] at d0
      have h0 := (hin (X := X) (k := 21) (by decide) (by decide)).trans d0
      have c0 := fr_cell hC hib hI3
      refine op_value (v := .slice (some ⟨b, off, none⟩) vn vc) (w' := W) ?_ ⟨_, rfl, by rw [e3], hTm, by rw [hR]; trivial⟩
      generalize (puts A X ds).eval = ρ at h0 ⊢
      go_simp
    · intro m h; have h' : (none : Option Nat) = some m := h; cases h'
    · intro _ X W m hTm hw hd hu
      have hC := hTC _ _ _ hTm
      have h0 := hout (X := X) (k := 4) (by decide)
      rw [hA4] at h0
      refine op_value (v := .int .i64 j) (w' := W) ?_ ⟨_, rfl, by rw [e4], hTm, by rw [hR]; trivial⟩
      generalize (puts A X ds).eval = ρ at h0 ⊢
      go_simp
    · intro m h; have h' : (none : Option Nat) = some m := h; cases h'
    · intro _ X W m hTm hw hd hu
      have hC := hTC _ _ _ hTm
      have d0 := hd 3 (by kernel_rfl)
      rw [e3, g3] at d0
      have h0 := (hin (X := X) (k := 22) (by decide) (by decide)).trans d0
      have d1 := hd 4 (by kernel_rfl)
      rw [e4, g4] at d1
      have h1 := (hin (X := X) (k := 23) (by decide) (by decide)).trans d1
      refine op_value (v := .pointer (some ⟨b, off + j * 2, none⟩)) (w' := W) ?_ ⟨_, rfl, by rw [e5], hTm, by rw [hR]; trivial⟩
      generalize (puts A X ds).eval = ρ at h0 h1 ⊢
      go_simp
    · intro m h; have h' : (none : Option Nat) = some m := h; cases h'
    · intro _ X W m hTm hw hd hu
      have hC := hTC _ _ _ hTm
      have d0 := hd 5 (by kernel_rfl)
      rw [e5, g5] at d0
      have h0 := (hin (X := X) (k := 24) (by decide) (by decide)).trans d0
      refine op_value (v := .pointer (some ⟨b, off + j * 2, none⟩)) (w' := W) ?_ ⟨_, rfl, by rw [e6], hTm, by rw [hR]; trivial⟩
      generalize (puts A X ds).eval = ρ at h0 ⊢
      go_simp
    · intro m h; have h' : (none : Option Nat) = some m := h; cases h'
    · intro _ X W m hTm hw hd hu
      have hC := hTC _ _ _ hTm
      have d0 := hd 6 (by kernel_rfl)
      rw [e6, g6] at d0
      have h0 := (hin (X := X) (k := 25) (by decide) (by decide)).trans d0
      have c0 := fr_cell hC hbb hZ0
      refine op_value (v := .int .i64 z.t) (w' := W) ?_ ⟨_, rfl, by rw [e7], hTm, by rw [hR]; trivial⟩
      generalize (puts A X ds).eval = ρ at h0 ⊢
      go_simp
    · intro m h; have h' : (none : Option Nat) = some m := h; cases h'
    · intro _ X W m hTm hw hd hu
      have hC := hTC _ _ _ hTm
      have h0 := hout (X := X) (k := 1) (by decide)
      rw [hA1] at h0
      refine op_value (v := .pointer (some ⟨ib, 3, none⟩)) (w' := W) ?_ ⟨_, rfl, by rw [e8], hTm, by rw [hR]; trivial⟩
      generalize (puts A X ds).eval = ρ at h0 ⊢
      go_simp
    · intro m h; have h' : (none : Option Nat) = some m := h; cases h'
    · intro _ X W m hTm hw hd hu
      have hC := hTC _ _ _ hTm
      have d0 := hd 8 (by kernel_rfl)
      rw [e8, g8] at d0
      have h0 := (hin (X := X) (k := 27) (by decide) (by decide)).trans d0
      have c0 := fr_cell hC hib hI3
      refine op_value (v := .slice (some ⟨b, off, none⟩) vn vc) (w' := W) ?_ ⟨_, rfl, by rw [e9], hTm, by rw [hR]; trivial⟩
      generalize (puts A X ds).eval = ρ at h0 ⊢
      go_simp
    · intro m h; have h' : (none : Option Nat) = some m := h; cases h'
    · intro _ X W m hTm hw hd hu
      have hC := hTC _ _ _ hTm
      have h0 := hout (X := X) (k := 4) (by decide)
      rw [hA4] at h0
      refine op_value (v := .int .i64 j) (w' := W) ?_ ⟨_, rfl, by rw [e10], hTm, by rw [hR]; trivial⟩
      generalize (puts A X ds).eval = ρ at h0 ⊢
      go_simp
    · intro m h; have h' : (none : Option Nat) = some m := h; cases h'
    · intro _ X W m hTm hw hd hu
      have hC := hTC _ _ _ hTm
      have d0 := hd 9 (by kernel_rfl)
      rw [e9, g9] at d0
      have h0 := (hin (X := X) (k := 28) (by decide) (by decide)).trans d0
      have d1 := hd 10 (by kernel_rfl)
      rw [e10, g10] at d1
      have h1 := (hin (X := X) (k := 29) (by decide) (by decide)).trans d1
      refine op_value (v := .pointer (some ⟨b, off + j * 2, none⟩)) (w' := W) ?_ ⟨_, rfl, by rw [e11], hTm, by rw [hR]; trivial⟩
      generalize (puts A X ds).eval = ρ at h0 h1 ⊢
      go_simp
    · intro m h; have h' : (none : Option Nat) = some m := h; cases h'
    · intro _ X W m hTm hw hd hu
      have hC := hTC _ _ _ hTm
      have d0 := hd 11 (by kernel_rfl)
      rw [e11, g11] at d0
      have h0 := (hin (X := X) (k := 30) (by decide) (by decide)).trans d0
      refine op_value (v := .pointer (some ⟨b, off + j * 2 + 1, none⟩)) (w' := W) ?_ ⟨_, rfl, by rw [e12], hTm, by rw [hR]; trivial⟩
      generalize (puts A X ds).eval = ρ at h0 ⊢
      go_simp
    · intro m h; have h' : (none : Option Nat) = some m := h; cases h'
    · intro _ X W m hTm hw hd hu
      have hC := hTC _ _ _ hTm
      have d0 := hd 12 (by kernel_rfl)
      rw [e12, g12] at d0
      have h0 := (hin (X := X) (k := 31) (by decide) (by decide)).trans d0
      have c0 := fr_cell hC hbb hZ1
      refine op_value (v := .int .i64 z.w) (w' := W) ?_ ⟨_, rfl, by rw [e13], hTm, by rw [hR]; trivial⟩
      generalize (puts A X ds).eval = ρ at h0 ⊢
      go_simp
    · intro m h; have h' : (none : Option Nat) = some m := h; cases h'
    · intro _ X W m hTm hw hd hu
      have hC := hTC _ _ _ hTm
      have d0 := hd 7 (by kernel_rfl)
      rw [e7, g7] at d0
      have h0 := (hin (X := X) (k := 26) (by decide) (by decide)).trans d0
      have d1 := hd 13 (by kernel_rfl)
      rw [e13, g13] at d1
      have h1 := (hin (X := X) (k := 32) (by decide) (by decide)).trans d1
      refine op_value (v := .agg #[.int .i64 z.t, .int .i64 z.w]) (w' := W) ?_ ⟨_, rfl, by rw [e14], hTm, by rw [hR]; trivial⟩
      generalize (puts A X ds).eval = ρ at h0 h1 ⊢
      go_simp
    · intro m h; have h' : (none : Option Nat) = some m := h; cases h'
    · intro h; have h' : (some 0 : Option Nat) = none := h; cases h'
    · intro m hm0 X W hTm hd hu
      have hm1 : some 0 = some m := hm0
      cases hm1
      have hC := hTC _ _ _ hTm
      have d0 := hd 14 (by kernel_rfl)
      rw [e14, g14] at d0
      have h0 := (hin (X := X) (k := 33) (by decide) (by decide)).trans d0
      rw [t0] at hTm
      have hb1 : Below W.heap.size W (W.alloc (.cells #[.int .i64 z.t, .int .i64 z.w] 123)) := one_new _ _
      refine op_value (v := .slice (some ⟨W.heap.size, 0, none⟩) 1 1) (w' := W.alloc (.cells #[.int .i64 z.t, .int .i64 z.w] 123)) ?_ ⟨_, rfl, by rw [e15]; trivial, ?_, by rw [hR]; trivial⟩
      · generalize (puts A X ds).eval = ρ at h0 ⊢
        go_simp
      · rw [t1, g15, upd_at]
        exact ⟨(Fr.ofBelow hTm _).trans (Fr.ofBelow hb1 _) (fun _ _ h => h), _, rfl, heap_alloc_new _ _, hTm.size⟩
    · intro h; have h' : (some 1 : Option Nat) = none := h; cases h'
    · intro m hm0 X W hTm hd hu
      have hm1 : some 1 = some m := hm0
      cases hm1
      have hC := hTC _ _ _ hTm
      have d0 := hd 1 (by kernel_rfl)
      rw [e1, g1] at d0
      have h0 := (hin (X := X) (k := 20) (by decide) (by decide)).trans d0
      have h1 := hin (X := X) (k := 34) (by decide) (by decide)
      rw [t1] at hTm
      obtain ⟨hf, g, hX, hg, hgl⟩ := hTm
      rw [hX] at h1
      obtain ⟨i0, hi, hz0, hz1, hz2⟩ := info_parts infoRW
      refine op_appendR 43 123 rfl i0 _ 2 16 Tryz.underlying43 hi hz0 hz1 hz2 rfl (by decide) base sv L.length (ecs L) h0 (k_keep hKV hf (fun k hk e => e)) h1 (one_row hg) rfl (by simp [Value.oneCell']) (by unfold maxLen; omega) (by omega) (Nat.le_trans hbase hf.size) ?_
      intro v' W' hown hgr hat
      have hfr := Fr.grown hgr (S := fun k => sv.ownBlock = some k) (fun k hk => hk)
      refine ⟨v', rfl, by rw [e16]; trivial, ?_, by rw [hR]; trivial⟩
      rw [t2, g16, upd_at]
      refine ⟨kv_app hown, fun k hk => ?_, (hf.mono (fun _ _ h => .inl h)).trans hfr (fun _ _ h => .inr h)⟩
      rcases hat with e | e
      · rw [e] at hk; exact .inl hk
      · rw [e] at hk; cases hk; exact .inr hf.size
    · intro _ X W m hTm hw hd hu
      have hC := hTC _ _ _ hTm
      have h0 := hout (X := X) (k := 3) (by decide)
      rw [hA3] at h0
      refine op_value (v := .pointer (some ⟨ob, 3, none⟩)) (w' := W) ?_ ⟨_, rfl, by rw [e17], hTm, by rw [hR]; trivial⟩
      generalize (puts A X ds).eval = ρ at h0 ⊢
      go_simp
    · intro m h; have h' : (none : Option Nat) = some m := h; cases h'
    · intro h; have h' : (some 2 : Option Nat) = none := h; cases h'
    · intro m hm0 X W hTm hd hu
      have hm1 : some 2 = some m := hm0
      cases hm1
      have hC := hTC _ _ _ hTm
      have d0 := hd 17 (by kernel_rfl)
      rw [e17, g17] at d0
      have h0 := (hin (X := X) (k := 36) (by decide) (by decide)).trans d0
      have h1 := hin (X := X) (k := 35) (by decide) (by decide)
      rw [t2] at hTm
      obtain ⟨hk1, hl1, hf⟩ := hTm
      have hbx : OcBoxT W 45 ob #[b0, b1, b2, sv] := oc_fr hf (fun e => by rcases e with e | e; exact e; exact hos e) hOc
      have q0 := (oc_cells hbx).2.2.2
      have q1 : W.frozen? ⟨ob, 3, none⟩ = false := oc_froz hbx
      have hfr := Fr.setCell (S := fun k => k = ob) W ⟨ob, 3, none⟩ (X 35) rfl
      obtain ⟨ax, cx, hsx⟩ := k_shape hk1
      have hax := hl1 ob
      refine op_skip (w' := W.setCell ⟨ob, 3, none⟩ (X 35)) ?_ ⟨_, rfl, by rw [e18]; trivial, ?_, by rw [hR]; trivial⟩
      · rw [hsx] at h1 ⊢
        generalize (puts A X ds).eval = ρ at h0 h1 ⊢
        go_simp
      · rw [t3, g18, upd_ne _ _ (by decide)]
        have hnb : ¬ (X 35).ownBlock = some ob := fun e => by
          rcases hax e with h | h
          · exact hos h
          · have := (Array.getElem?_eq_some_iff.1 hOc).1; omega
        exact ⟨k_keep hk1 hfr (fun k hk e => hnb (e ▸ hk)), hl1, oc_set hbx _, (hf.mono (fun _ _ h => by rcases h with h | h; exact .inl h; exact .inr (.inl h))).trans hfr (fun _ _ h => .inr (.inr h))⟩
  · intro X W hall hTm
    have r0 := hall 0 (by decide)
    rw [e0, g0] at r0
    have r1 := hall 1 (by decide)
    rw [e1, g1] at r1
    have r2 := hall 2 (by decide)
    rw [e2, g2] at r2
    have r3 := hall 3 (by decide)
    rw [e3, g3] at r3
    have r4 := hall 4 (by decide)
    rw [e4, g4] at r4
    have r5 := hall 5 (by decide)
    rw [e5, g5] at r5
    have r6 := hall 6 (by decide)
    rw [e6, g6] at r6
    have r7 := hall 7 (by decide)
    rw [e7, g7] at r7
    have r8 := hall 8 (by decide)
    rw [e8, g8] at r8
    have r9 := hall 9 (by decide)
    rw [e9, g9] at r9
    have r10 := hall 10 (by decide)
    rw [e10, g10] at r10
    have r11 := hall 11 (by decide)
    rw [e11, g11] at r11
    have r12 := hall 12 (by decide)
    rw [e12, g12] at r12
    have r13 := hall 13 (by decide)
    rw [e13, g13] at r13
    have r14 := hall 14 (by decide)
    rw [e14, g14] at r14
    have r17 := hall 17 (by decide)
    rw [e17, g17] at r17
    rw [t3] at hTm
    have := HK X W hTm
    rw [hds] at this
    exact this
end Go.Proofs.YtnhijofnhflklaaGreat
end
