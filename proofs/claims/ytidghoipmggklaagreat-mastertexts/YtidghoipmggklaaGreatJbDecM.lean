import Derived.Test.YtidghoipmggklaaGreatJbMM
import Derived.Test.YtidghoipmggklaaGreatGrPutM
import Derived.Deep.Cut
import Derived.Deep.DeepCutAuto
import Derived.Deep.CutBlock
import Derived.Test.YtidghoipmggklaaGreatGrRefM
import Derived.Test.YtidghoipmggklaaGreatNumM
import Derived.Below
import Derived.Laws.IdiomCopy
import Derived.Lib.AppendZerosOnto
section
/- run.PutJob and run.EncodeJob: a job's bytes. -/
namespace Go.Proofs.YtidghoipmggklaaGreat
open Go.RowKit
/-- Numbers lie in memory from an address on, in a block that P names. -/
def IsP (w : World) (P : Nat → Prop) (po : Option Addr) (L : List Int) : Prop := 0 < L.length → ∃ b off, po = some ⟨b, off, none⟩ ∧ P b ∧ ∀ j (h : j < L.length), w.cell? ⟨b, off + j, none⟩ = some (.int .i64 L[j])
theorem IsAt.toP {w : World} {po : Option Addr} {L : List Int} (h : IsAt w po L) : IsP w (fun k => k < w.heap.size) po L := fun hl => by
  obtain ⟨b, off, e, hc⟩ := h hl
  exact ⟨b, off, e, lt_cell (hc 0 hl), hc⟩
theorem IsP.at {w : World} {P : Nat → Prop} {po : Option Addr} {L : List Int} (h : IsP w P po L) : IsAt w po L := fun hl => by
  obtain ⟨b, off, e, _, hc⟩ := h hl
  exact ⟨b, off, e, hc⟩
theorem IsP.kept {w w' : World} {P Q S : Nat → Prop} {po : Option Addr} {L : List Int} (h : IsP w P po L) (f : Fr w w' S) (hs : ∀ k, k < w.heap.size → P k → ¬ S k ∧ Q k) : IsP w' Q po L := fun hl => by
  obtain ⟨b, off, e, hB, hc⟩ := h hl
  have hlt := lt_cell (hc 0 hl)
  exact ⟨b, off, e, (hs b hlt hB).2, fun j hj => fr_cell f (hs b hlt hB).1 (hc j hj)⟩
theorem IsP.new {w w' : World} {P : Nat → Prop} {po : Option Addr} {L : List Int} (h : IsP w P po L) (hb : Below w.heap.size w w') : IsP w' P po L := h.kept (Fr.ofBelow hb (fun _ => False)) (fun _ _ hp => ⟨fun h => h, hp⟩)
theorem IsP.mono {w : World} {P Q : Nat → Prop} {po : Option Addr} {L : List Int} (h : IsP w P po L) (hs : ∀ k, k < w.heap.size → P k → Q k) : IsP w Q po L := h.kept (Fr.refl w (fun _ => False)) (fun k hk hp => ⟨fun h => h, hs k hk hp⟩)
theorem size_jobJ : (Tryz.prog.info? 27).map (·.size) = some 6 := by kernel_rfl
theorem wtext_o {w0 w : World} {base p : Nat} {v : Value} {l : List UInt8} (s : ByteArray) (h : WTo w0 w base p v l) (hroom : l.length + s.size + 10 ≤ 140737488355328) :
    Calls Tryz.prog 49 #[.pointer (some ⟨p, 0, none⟩), .string s] w fun r w' => r = .returned (.tuple #[]) ∧ WTo w0 w' base p v (l ++ textB s.data.toList) := by
  obtain ⟨v1, hw, hf, hr⟩ := h
  exact (wtext_any s hw hroom).mono fun r w' ⟨h1, h2⟩ => ⟨h1, WTo.then hf hr h2⟩
theorem wput_o {w0 w : World} {base p : Nat} {l : List UInt8} {ao : Option Addr} (G : List Vx) (n cap : Nat) (hn : n = G.length) (h : WTo w0 w base p (.slice none 0 0) l) (hG : VxAt w0 (fun k => k < p) ao G) (hok : ∀ v ∈ G, v.ok) (hl : G.length ≤ 256) (hroom : l.length + 10 + room G ≤ 140737488355328) :
    Calls Tryz.prog 50 #[.pointer (some ⟨p, 0, none⟩), .agg #[.slice ao n cap]] w fun r w' => r = .returned (.tuple #[]) ∧ WTo w0 w' base p (.slice none 0 0) (l ++ grB G) := by
  obtain ⟨v1, hw, hf, hr⟩ := h
  subst hn
  refine (put_any G cap hw ?_ hok (by omega) hroom).mono fun r w' ⟨h1, h2⟩ => ⟨h1, WTo.then hf hr h2⟩
  refine hG.kept hf (fun k hk hp' => ⟨?_, by omega, ?_⟩)
  · rintro (e | e)
    · omega
    · simp [Value.ownBlock] at e
  · intro e
    rcases hr with e1 | ⟨g, e1, hg⟩
    · rw [e1] at e; simp [Value.ownBlock] at e
    · rw [e1] at e; simp at e; omega
theorem job_rooms {t : ByteArray} {G : List Vx} {ps : List Int} {st se pa : Nat} (ht : t.size ≤ 9) (hok : ∀ v ∈ G, v.ok) (hc : chk G = 0) (hpl : ps.length ≤ 4) (hpk : ∀ x ∈ ps, I64 x) (hst : st ≤ 1000) (hse : se ≤ 65536) (hpa : pa ≤ 16) :
    (textB t.data.toList).length ≤ 20 ∧ (grB G).length ≤ 50000 ∧ (numB ps.length).length ≤ 10 ∧ (∀ j, ((ps.take j).flatMap sgB).length ≤ 40) ∧ (ps.flatMap sgB).length ≤ 40 ∧ (numB st).length ≤ 10 ∧ (numB se).length ≤ 10 ∧ (numB pa).length ≤ 10 := by
  have hrm := room_ok hc hok
  have hlen := (chk_ok hc).1
  have h1 := vxsB_len G hok
  have h2 := numB_len10 (n := G.length) (by omega)
  have ht' : t.data.toList.length = t.size := by simp
  have h3 := numB_len10 (n := t.data.toList.length) (by omega)
  have hf : ∀ l : List Int, (∀ x ∈ l, I64 x) → (l.flatMap sgB).length ≤ 10 * l.length := by
    intro l
    induction l with
    | nil => intro _; simp
    | cons a l ih =>
      intro h
      have h4 := sgB_len (h a (by simp))
      have h5 := ih (fun x hx => h x (by simp [hx]))
      rw [List.flatMap_cons, List.length_append, List.length_cons]; omega
  refine ⟨?_, ?_, numB_len10 (by omega), fun j => ?_, ?_, numB_len10 (by omega), numB_len10 (by omega), numB_len10 (by omega)⟩
  · unfold textB; rw [List.length_append]; omega
  · unfold grB; rw [List.length_append]; omega
  · have := hf (ps.take j) (fun x hx => hpk x (List.mem_of_mem_take hx))
    rw [List.length_take] at this
    omega
  · have := hf ps hpk
    omega
theorem jobB_len {t : ByteArray} {G : List Vx} {ps : List Int} {st se pa : Nat} (ht : t.size ≤ 9) (hok : ∀ v ∈ G, v.ok) (hc : chk G = 0) (hpl : ps.length ≤ 4) (hpk : ∀ x ∈ ps, I64 x) (hst : st ≤ 1000) (hse : se ≤ 65536) (hpa : pa ≤ 16) : (jobB t G ps st se pa).length ≤ 60000 := by
  obtain ⟨r1, r2, r3, r4, r5, r6, r7, r8⟩ := job_rooms ht hok hc hpl hpk hst hse hpa
  unfold jobB
  simp only [List.length_append]
  omega
theorem ps_snoc (ps : List Int) (j : Nat) (h : j < ps.length) : (ps.take (j + 1)).flatMap sgB = (ps.take j).flatMap sgB ++ sgB ps[j] := by
  rw [List.take_succ_eq_append_getElem h, List.flatMap_append]; simp
set_option maxRecDepth 100000 in
set_option maxHeartbeats 2000000 in
theorem putj_any {w : World} {p : Nat} {go po : Option Addr} {gn gc pn pc : Nat} {t : ByteArray} {G : List Vx} {ps : List Int} {st se pa : Nat} (hn : gn = G.length) (hp : pn = ps.length) (h : Wr w (p + 1) p (.slice none 0 0) []) (hG : VxAt w (fun k => k < p) go G) (hP : IsP w (fun k => k < p) po ps) (ht : t.size ≤ 9) (hok : ∀ v ∈ G, v.ok) (hc : chk G = 0) (hpl : ps.length ≤ 4) (hpk : ∀ x ∈ ps, I64 x) (hst : st ≤ 1000) (hse : se ≤ 65536) (hpa : pa ≤ 16) :
    Calls Tryz.prog 14 #[.pointer (some ⟨p, 0, none⟩), .agg #[.string t, .slice go gn gc, .slice po pn pc, .int .i64 (st : Int), .int .i64 (se : Int), .int .i64 (pa : Int)]] w fun r w' => r = .returned (.tuple #[]) ∧ WTo w w' (p + 1) p (.slice none 0 0) (jobB t G ps st se pa) := by
  obtain ⟨r1, r2, r3, r4, r5, r6, r7, r8⟩ := job_rooms ht hok hc hpl hpk hst hse hpa
  have hrm := (room_ok hc hok).1
  have hgl := (chk_ok hc).1
  have hpw := h.lt
  obtain ⟨W0, hW0⟩ : ∃ W0, w.alloc (.cells #[.string t, .slice go gn gc, .slice po pn pc, .int .i64 (st : Int), .int .i64 (se : Int), .int .i64 (pa : Int)] 27) = W0 := ⟨_, rfl⟩
  have hb0 : Below w.heap.size w W0 := by rw [← hW0]; exact one_new _ _
  have hJ0 : JobBoxC W0 w.heap.size #[.string t, .slice go gn gc, .slice po pn pc, .int .i64 (st : Int), .int .i64 (se : Int), .int .i64 (pa : Int)] := by rw [← hW0]; exact heap_alloc_new _ _
  obtain ⟨c0, c1, c2, c3, c4, c5⟩ := job_cells hJ0
  have hT0 : WTo W0 W0 (p + 1) p (.slice none 0 0) [] := by rw [← hW0]; exact WTo.refl (h.al _)
  have HG : Hid (VxAt W0 (fun k => k < p) go G) := hG.new hb0
  have HP : Hid (IsP W0 (fun k => k < p) po ps) := hP.new hb0
  have HO : Hid (∀ v ∈ G, v.ok) := hok
  have HPK : Hid (∀ x ∈ ps, I64 x) := hpk
  have HN : Hid _ := hn
  have HPn : Hid _ := hp
  have HR4 : Hid _ := r4
  have hbp : w.heap.size ≠ p := by omega
  have hv0 : (Value.slice none 0 0).ownBlock ≠ some w.heap.size := by simp [Value.ownBlock]
  have hpn : pn ≤ 4 := by rw [hp]; exact hpl
  have hp0 : p < W0.heap.size := by have := hb0.size; omega
  have HFin : Hid (∀ w' l', WTo W0 w' (p + 1) p (.slice none 0 0) l' → WTo w w' (p + 1) p (.slice none 0 0) l') := fun w' l' h' => by rw [← hW0] at h'; exact h'.fromAlloc
  clear hn hp h hG hP hok hpk hb0 hJ0 hpw r4 hc
  go_enter Tryz.func14, Tryz.ntmps14
  go_upto_region 2 with (go_at_call 49; refine (wtext_o t hT0 (by simp; omega)).mono ?_; rintro r w1 ⟨rfl, hT1⟩)
  rw [List.nil_append] at hT1
  have d1 := hT1.cell hbp hv0 c1
  go_upto_region 3 with (go_at_call 50; refine (wput_o G gn gc HN.out hT1 HG.out HO.out hgl (by omega)).mono ?_; rintro r w2 ⟨rfl, hT2⟩)
  have d2 := hT2.cell hbp hv0 c2
  have hl2 : (textB t.data.toList ++ grB G).length + 10 ≤ 140737488355328 := by rw [List.length_append]; omega
  go_upto_region 4 with (go_at_call 51; refine (wcount_w pn hT2 (by omega) hl2).mono ?_; rintro r w3 ⟨rfl, hT3⟩)
  have e2 := hT3.cell hbp hv0 c2
  have HT3 : Hid _ := hT3
  have HH : Hid ((textB t.data.toList ++ grB G ++ numB pn).length ≤ 50030) := by show _ ≤ _; rw [List.length_append, List.length_append, HPn.out]; omega
  clear hT0 hT1 hT2 hT3 d1 d2 hl2
  go_upto_block 0 with (fail)
  go_wp2
  go_loopw [5, 22] (fun _ i wr => ∃ j : Nat, j ≤ pn ∧ i = .int .i64 j ∧ WTo W0 wr (p + 1) p (.slice none 0 0) (textB t.data.toList ++ grB G ++ numB pn ++ (ps.take j).flatMap sgB)) (fun _ i _ => pn - (intOf i).toNat)
  case atStart => exact ⟨0, Nat.zero_le _, rfl, by rw [List.take_zero, List.flatMap_nil, List.append_nil]; exact HT3.out⟩
  case round =>
    obtain ⟨j, hj, rfl, hTj⟩ := hrel
    have hlj : (textB t.data.toList ++ grB G ++ numB pn ++ (ps.take j).flatMap sgB).length ≤ 50070 := by
      have := HR4.out j
      have := HH.out
      rw [List.length_append]; omega
    by_cases hlt : j < pn
    · have hjl : j < ps.length := by rw [← HPn.out]; exact hlt
      obtain ⟨b, off, rfl, hB, hcs⟩ := HP.out (by omega)
      have x0 := hTj.cell (b := b) (by omega) (by simp [Value.ownBlock]) (hcs j hjl)
      have HZ : Hid (I64 ps[j]) := HPK.out _ (List.getElem_mem hjl)
      have HS : Hid _ := ps_snoc ps j hjl
      generalize ps[j] = z at x0 HZ HS
      clear hcs
      go_wp2_with (go_at_call 52; refine (wsigned_w z hTj HZ.out (by omega)).mono ?_; rintro r w4 ⟨rfl, hT4⟩)
      go_roundw
      case rel => exact ⟨j + 1, by omega, by go_num, by rw [HS.out]; simpa only [List.append_assoc] using hT4⟩
      case measure => simp [intOf]; omega
    · obtain rfl : j = pn := by omega
      have HTj : Hid _ := hTj
      have f3 := hTj.cell hbp hv0 c3
      clear hTj HT3
      go_upto_region 10 with (go_at_call 51; refine (wcount_w st HTj.out (by omega) (by omega)).mono ?_; rintro r w5 ⟨rfl, hT5⟩)
      have f4 := hT5.cell hbp hv0 c4
      go_upto_region 11 with (go_at_call 51; refine (wcount_w se hT5 (by omega) (by rw [List.length_append]; omega)).mono ?_; rintro r w6 ⟨rfl, hT6⟩)
      have f5 := hT6.cell hbp hv0 c5
      go_wp2_with (go_at_call 51; refine (wcount_w pa hT6 (by omega) (by rw [List.length_append, List.length_append]; omega)).mono ?_; rintro r w7 ⟨rfl, hT7⟩)
      go_end0
      refine ⟨rfl, HFin.out _ _ ?_⟩
      have e : jobB t G ps st se pa = textB t.data.toList ++ grB G ++ numB j ++ (ps.take j).flatMap sgB ++ numB st ++ numB se ++ numB pa := by
        unfold jobB
        rw [HPn.out, List.take_length]
      rw [e]
      exact hT7
set_option maxRecDepth 100000 in
set_option maxHeartbeats 1000000 in
theorem encj_good {w : World} {P : Nat → Prop} {go po : Option Addr} {gn gc pn pc : Nat} {t : ByteArray} {G : List Vx} {ps : List Int} {st se pa : Nat} (hn : gn = G.length) (hp : pn = ps.length) (hG : VxAt w P go G) (hok : ∀ v ∈ G, v.ok) (hL : IsAt w po ps) (hpk : ∀ x ∈ ps, I64 x) (hj : jobN t G ps st se pa = 0) :
    Calls Tryz.prog 8 #[.agg #[.string t, .slice go gn gc, .slice po pn pc, .int .i64 (st : Int), .int .i64 (se : Int), .int .i64 (pa : Int)]] w fun r w' => r = .returned (.tuple #[.string (str (jobB t G ps st se pa)), .int .i64 0]) ∧ Below w.heap.size w w' := by
  have hk := jobN_ok hj
  have hgl := (chk_ok hk.chk).1
  obtain ⟨W0, hW0⟩ : ∃ W0, w.alloc (.cells #[.string t, .slice go gn gc, .slice po pn pc, .int .i64 (st : Int), .int .i64 (se : Int), .int .i64 (pa : Int)] 27) = W0 := ⟨_, rfl⟩
  have hb0 : Below w.heap.size w W0 := by rw [← hW0]; exact one_new _ _
  have HJ0 : Hid (JobBoxC W0 w.heap.size #[.string t, .slice go gn gc, .slice po pn pc, .int .i64 (st : Int), .int .i64 (se : Int), .int .i64 (pa : Int)]) := by rw [← hW0]; exact heap_alloc_new _ _
  have hC := checkJ_any (s := t) (gc := gc) (pc := pc) (st := (st : Int)) (se := (se : Int)) (pa := (pa : Int)) hn hp (hG.new hb0) hok (by omega) (hL.new hb0) (by have := hk.len; omega)
  rw [hj] at hC
  have HC : Hid _ := hC
  have HB : Hid _ := hb0
  have HPut : Hid (∀ w1 p, Below w.heap.size w w1 → w.heap.size ≤ p → Wr w1 (p + 1) p (.slice none 0 0) [] → Calls Tryz.prog 14 #[.pointer (some ⟨p, 0, none⟩), .agg #[.string t, .slice go gn gc, .slice po pn pc, .int .i64 (st : Int), .int .i64 (se : Int), .int .i64 (pa : Int)]] w1 fun r w' => r = .returned (.tuple #[]) ∧ WTo w1 w' (p + 1) p (.slice none 0 0) (jobB t G ps st se pa)) := fun w1 p hb hle hw =>
    putj_any hn hp hw (((hG.mono (Q := fun k => k < w.heap.size) (fun _ h _ => h)).new hb).mono (fun k _ h => by omega)) ((hL.toP.new hb).mono (fun k _ h => by omega)) (known_size hk.known) hok hk.chk hk.len hpk (by have := hk.st; omega) (by have := hk.se; omega) (by have := hk.pa; omega)
  clear hn hp hG hok hL hj hC hb0 hk hpk
  go_enter Tryz.func8, Tryz.ntmps8
  go_wp2_with (first
    | (refine wpList_load_row rfl 27 _ rfl w.heap.size rfl 27 #[.string t, .slice go gn gc, .slice po pn pc, .int .i64 (st : Int), .int .i64 (se : Int), .int .i64 (pa : Int)] (0, 0) _ (by first | exact HJ2.out | exact HJ0.out) Tryz.underlying27 rfl size_jobJ ?_)
    | (go_at_call 42; refine Calls.mono HC.out ?_; rintro r w1 ⟨rfl, hb1⟩; have HB1 : Hid (Below w.heap.size w w1) := HB.out.trans (hb1.mono HB.out.size); have HJ1 : Hid (JobBoxC w1 w.heap.size #[.string t, .slice go gn gc, .slice po pn pc, .int .i64 (st : Int), .int .i64 (se : Int), .int .i64 (pa : Int)]) := (hb1.block _ (Array.getElem?_eq_some_iff.1 HJ0.out).1).trans HJ0.out; clear hb1)
    | (go_at_call 13; refine (newwriter_any _).mono ?_; rintro r w2 ⟨rfl, hw2, hb2⟩; have HB2 : Hid (Below w.heap.size w w2) := HB1.out.trans (hb2.mono HB1.out.size); have HJ2 : Hid (JobBoxC w2 w.heap.size #[.string t, .slice go gn gc, .slice po pn pc, .int .i64 (st : Int), .int .i64 (se : Int), .int .i64 (pa : Int)]) := (hb2.block _ (Array.getElem?_eq_some_iff.1 HJ1.out).1).trans HJ1.out; have HW2 : Hid _ := hw2; clear hw2 hb2)
    | (go_at_call 14; refine Calls.mono (HPut.out _ _ HB2.out HB1.out.size HW2.out) ?_; rintro r w3 ⟨rfl, hT3⟩; have HB3 : Hid (Below w.heap.size w w3) := WTo.new HB2.out HW2.out hT3 HB1.out.size (Nat.le_succ_of_le HB1.out.size); obtain ⟨v3, hw3, hf3, hr3⟩ := hT3; have HW3 : Hid _ := hw3; clear hw3 hf3 hr3)
    | (go_at_call 16; refine (wall_any HW3.out).mono ?_; rintro r w4 ⟨rfl, rfl⟩))
  go_ret2
  exact ⟨rfl, HB3.out⟩
end Go.Proofs.YtidghoipmggklaaGreat
end

section
/- The ends of a vertex's edges but itself; a message to each of some vertices. -/
namespace Go.Proofs.YtidghoipmggklaaGreat
open Go.RowKit
/-- A row of numbers of one's own. -/
def KI (w : World) (base : Nat) (v : Value) (L : List Int) : Prop := w.ownsRow base 2 1 v L.length (L.map (Value.int .i64))
theorem infoKI : (Tryz.prog.info? 2).map (fun i => (i.zero, i.size, i.bytes)) = some (some (.int .i64 0), 1, 8) := by kernel_rfl
theorem ki_snoc {w : World} {base n : Nat} {v : Value} {L : List Int} {x : Int} (hn : n = L.length) (h : w.ownsRow base 2 1 v (n + 1) (L.map (Value.int .i64) ++ [.int .i64 x])) : KI w base v (L ++ [x]) := by
  subst hn
  unfold KI
  rw [List.length_append, List.map_append]
  simpa using h
theorem KI.at_ {w : World} {base : Nat} {ao : Option Addr} {n c : Nat} {L : List Int} (h : KI w base (.slice ao n c) L) : IsAt w ao L := by
  intro hl
  have hn : n = L.length := by obtain ⟨_, _, e⟩ := k_shape h; cases e; rfl
  subst hn
  obtain ⟨g, rfl, _, hc⟩ := k_at h hl
  refine ⟨g, 0, rfl, fun j hj => ?_⟩
  rw [Nat.zero_add]
  exact hc j _ (by simp [hj])
theorem k_one1 {W : World} {b : Nat} {t : TypeId} {f : Nat × Nat} {x : Value} (h : W.heap[b]? = some (.cells #[x] t f)) : ∀ (j : Nat) (u : Value), [x][j]? = some u → W.cell? ((⟨b, 0, none⟩ : Addr).add j) = some u := by
  intro j u hu
  rw [Addr.add_lit, Nat.zero_add]
  simp [World.cell?, h]
  simpa using hu
theorem k_oneI (x : Int) : ∀ u ∈ [Value.int .i64 x], u.oneCell' = true := by
  intro u hu
  simp at hu
  subst hu
  rfl
end Go.Proofs.YtidghoipmggklaaGreat
end

section
/- Rows that are written in place: cells set one behind the other, clear and copy of elements of several cells. No function of the program is named here. -/
namespace Go.Proofs.YtidghoipmggklaaGreat
open Go.RowKit
theorem fr_setCells (b : Nat) {S : Nat → Prop} (hS : S b) : ∀ (vs : List Value) (o : Nat) (w : World), Fr w (w.setCells b o vs) S
  | [], _, w => Fr.refl w S
  | v :: r, o, w => (Fr.setCell w ⟨b, o, none⟩ v hS).trans (fr_setCells b hS r (o + 1) _) (fun _ _ h => h)
theorem set_heap {w : World} {b : Nat} {t : TypeId} {f : Nat × Nat} {cs : Array Value} (h : w.heap[b]? = some (.cells cs t f)) (i : Nat) (v : Value) : (w.setCell ⟨b, i, none⟩ v).heap[b]? = some (.cells (cs.setIfInBounds i v) t f) := by
  have hlt : b < w.heap.size := (Array.getElem?_eq_some_iff.1 h).1
  have h' : w.heap[b] = .cells cs t f := by simpa [Array.getElem?_eq_getElem hlt] using h
  show (w.heap.modify b _)[b]? = _
  rw [Array.getElem?_eq_getElem (by simpa using hlt), Array.getElem_modify_self, h']
  rfl
/-- Cells written over others. -/
def over (cur : List Value) (o : Nat) (vs : List Value) : List Value := cur.take o ++ vs ++ cur.drop (o + vs.length)
theorem over_len (cur : List Value) (o : Nat) (vs : List Value) (h : o + vs.length ≤ cur.length) : (over cur o vs).length = cur.length := by
  unfold over; simp; omega
theorem setCells_heap {b : Nat} {t : TypeId} {f : Nat × Nat} : ∀ (vs : List Value) (o : Nat) (w : World) (cur : Array Value), w.heap[b]? = some (.cells cur t f) → o + vs.length ≤ cur.size → (w.setCells b o vs).heap[b]? = some (.cells (over cur.toList o vs).toArray t f)
  | [], o, w, cur, h, _ => by
    unfold over
    simp only [World.setCells, List.append_nil, List.length_nil, Nat.add_zero, List.take_append_drop, Array.toArray_toList]
    exact h
  | v :: r, o, w, cur, h, hl => by
    have ih := setCells_heap r (o + 1) (w.setCell ⟨b, o, none⟩ v) (cur.setIfInBounds o v) (set_heap h o v) (by simp at hl ⊢; omega)
    rw [World.setCells, ih]
    have e : over (cur.setIfInBounds o v).toList (o + 1) r = over cur.toList o (v :: r) := by
      unfold over
      have := list_seg_step cur.toList o v r (by simp at hl ⊢; omega)
      simpa [Array.toList_setIfInBounds, Nat.add_assoc] using this
    rw [e]
/-- A block of a row of one's own. -/
structure Blk (w : World) (base : Nat) (e : TypeId) (size g cap : Nat) (cur : List Value) : Prop where
  low : base ≤ g
  heap : w.heap[g]? = some (.cells cur.toArray e (0, 0))
  max : cap ≤ maxLen
  size : cur.length = cap * size
theorem Blk.own {w : World} {base : Nat} {e : TypeId} {size g cap : Nat} {cur : List Value} (h : Blk w base e size g cap cur) {n : Nat} (hn : n ≤ cap) : w.ownsRow base e size (.slice (some ⟨g, 0, none⟩) n cap) n (cur.take (n * size)) := by
  refine ⟨?_, .inr ⟨g, cap, cur.toArray, rfl, h.low, h.heap, hn, h.max, by simpa using h.size, by simp⟩⟩
  have := Nat.mul_le_mul_right size hn
  rw [List.length_take, h.size]; omega
theorem own_blk {w : World} {base : Nat} {e : TypeId} {size : Nat} {v : Value} {n : Nat} {xs : List Value} (h : w.ownsRow base e size v n xs) (hn : 0 < n) : ∃ g cap cur, v = .slice (some ⟨g, 0, none⟩) n cap ∧ n ≤ cap ∧ Blk w base e size g cap cur ∧ cur.take (n * size) = xs := by
  rcases h.2 with ⟨_, h2⟩ | ⟨g, cap, cur, h1, h2, h3, h4, h5, h6, h7⟩
  · omega
  · exact ⟨g, cap, cur.toList, h1, h4, ⟨h2, by simpa using h3, h5, by simpa using h6⟩, h7⟩
theorem Blk.lt {w : World} {base : Nat} {e : TypeId} {size g cap : Nat} {cur : List Value} (h : Blk w base e size g cap cur) : g < w.heap.size := (Array.getElem?_eq_some_iff.1 h.heap).1
theorem Blk.set {w : World} {base : Nat} {e : TypeId} {size g cap : Nat} {cur : List Value} (h : Blk w base e size g cap cur) (o : Nat) (vs : List Value) (hl : o + vs.length ≤ cap * size) : Blk (w.setCells g o vs) base e size g cap (over cur o vs) := by
  refine ⟨h.low, ?_, h.max, ?_⟩
  · have := setCells_heap vs o w _ h.heap (by simpa [h.size] using hl)
    simpa using this
  · rw [over_len _ _ _ (by rw [h.size]; exact hl), h.size]
theorem Blk.drew {w : World} {base : Nat} {e : TypeId} {size g cap : Nat} {cur : List Value} (h : Blk w base e size g cap cur) : Blk w.drew base e size g cap cur := ⟨h.low, h.heap, h.max, h.size⟩
theorem Blk.cell {w : World} {base : Nat} {e : TypeId} {size g cap : Nat} {cur : List Value} (h : Blk w base e size g cap cur) (j : Nat) : w.cell? ⟨g, j, none⟩ = cur[j]? := by
  simp [World.cell?, h.heap]
theorem Blk.there {w : World} {base : Nat} {e : TypeId} {size g cap : Nat} {cur : List Value} (h : Blk w base e size g cap cur) {j : Nat} (hj : j < cap * size) : (w.cell? ⟨g, j, none⟩).isSome = true := by
  rw [h.cell, List.getElem?_eq_getElem (by rw [h.size]; exact hj)]; rfl
theorem Blk.soft {w : World} {base : Nat} {e : TypeId} {size g cap : Nat} {cur : List Value} (h : Blk w base e size g cap cur) (j : Nat) : w.frozen? ⟨g, j, none⟩ = false := by
  simp [World.frozen?, h.heap]
theorem over_take_at (cur : List Value) (o : Nat) (vs : List Value) (h : o ≤ cur.length) : (over cur o vs).take (o + vs.length) = cur.take o ++ vs := by
  unfold over
  rw [List.take_append_of_le_length (by simp; omega), List.take_of_length_le (by simp; omega)]
theorem over_take_lo (cur : List Value) (o : Nat) (vs : List Value) {n : Nat} (h : n ≤ o) (ho : o ≤ cur.length) : (over cur o vs).take n = cur.take n := by
  unfold over
  rw [List.append_assoc, List.take_append_of_le_length (by simp; omega), List.take_take, Nat.min_eq_left h]
section
variable {P : Program}
theorem step_copy_run {ops : Array Oper} {o : Oper} {a : Act} {w : World} {K : Act → World → Prop} {Q : Exit → Act → World → Prop} {E : Prop}
    (hg : o.guard = none) (d x : Operand) (dT sT : TypeId) (hop : o.op = Op.call { callee := Callee.builtin Builtin.copy, args := #[d, x], argTypes := #[dT, sT] })
    (v u : Value) (hd : a.eval d = v) (hx : a.eval x = u) {v' : Value} {w' : World} (hr : (Builtin.copy_ #[dT, sT] o.type #[v, u]).run P w = .ok v' w') (hK : K (a.put o.dst v') w') :
    if Region.wanted o (yielded ops a.tmps) = true then Oper.wp P o a w K Q else E := by
  have hw : Region.wanted o (yielded ops a.tmps) = true := by simp [Region.wanted, hg]
  rw [if_pos hw]
  unfold Oper.wp
  simp [execOp, hop, resolve, invoke, builtin, hd, hx, hr, Result.andThen]
  exact hK
theorem zc_len (z : Array Value) (n : Nat) : (Builtin.zeroCells z n).toList.length = n * z.size := by simp [Builtin.zeroCells]
/-- copy of elements of several cells: all is read before anything is written. -/
theorem run_copy_k (w : World) (dT sT ty elem : TypeId) (i : TypeInfo) (b o dLen dCap : Nat) (a : Addr) (sLen sCap m : Nat) (cs : List Value)
    (hu : P.underlying dT = some (.slice elem)) (hi : P.info? elem = some i) (hm : Nat.min sLen dLen = m) (hn : cs.length = m * i.size)
    (hsrc : ∀ j v, cs[j]? = some v → w.cell? (a.add j) = some v) (hc : ∀ j, j < cs.length → (w.cell? ⟨b, o + j, none⟩).isSome = true) (hf : ∀ j, j < cs.length → w.frozen? ⟨b, o + j, none⟩ = false) (h1 : ∀ v ∈ cs, v.oneCell' = true) :
    (Builtin.copy_ #[dT, sT] ty #[.slice (some ⟨b, o, none⟩) dLen dCap, .slice (some a) sLen sCap]).run P w = .ok (goInt m) (w.setCells b o cs) := by
  have hl := run_loadCells_list (P := P) w a cs hsrc
  rw [hn] at hl
  have hst := run_storeCells_cells (P := P) b o cs 0 w (by simpa using hc) (by simpa using hf) h1
  simp [Builtin.copy_, run_underlying hu, Builtin.lenOf, Builtin.firstCells, sizeOf, typeInfo, hi, hm, hl, hst]
end
end Go.Proofs.YtidghoipmggklaaGreat
end

section
/- run.takeParams, run.TakeJob and run.DecodeJob: a job off bytes. -/
namespace Go.Proofs.YtidghoipmggklaaGreat
open Go.RowKit
theorem res_ctJ {fn : Func} {p u : Tmp} {ty : TypeId} (h : fn.results = #[.cell p ty, .tmp u]) (tmps : Array Value) (w : World) (g : Nat) (t : TypeId) (cs : Array Value) (fr : Nat × Nat) (d : TypeDesc)
    (hp : tmps.getD p undef = .pointer (some ⟨g, 0, none⟩)) (hg : w.heap[g]? = some (.cells cs t fr))
    (hu : Tryz.prog.underlying ty = some d) (hd : (match d with | .struct _ | .array _ _ => true | _ => false) = true) (hi : (Tryz.prog.info? ty).map (·.size) = some cs.size) :
    (results fn tmps).run Tryz.prog w = .ok (.tuple #[.agg cs, tmps.getD u undef]) w := by
  rw [results_cell_tmp h, hp]
  have := run_loadVar_row (P := Tryz.prog) w g t ty cs fr d hg hu (by cases d <;> first | rfl | exact hd) hi
  simp [asAddr, this]
theorem r_sgJ {w : World} {p : Nat} {s : ByteArray} {a : Nat} {e : Int} (h : Rd w p s a e) (hs : s.size ≤ maxLen) (ha : a ≤ s.size) {n a' : Nat} {e' : Int} (hq : rdNum s a e = (n, a', e')) :
    Calls Tryz.prog 119 #[.pointer (some ⟨p, 0, none⟩)] w fun r w' => r = .returned (.int .i64 (unfoldN n)) ∧ Rd w' p s a' e' ∧ Fr w w' (fun k => k = p) := by
  have := rsigned_any h hs ha
  rw [hq] at this
  exact this
theorem r_ct4 {w : World} {p : Nat} {s : ByteArray} {a : Nat} {e : Int} (h : Rd w p s a e) (hs : s.size ≤ maxLen) (ha : a ≤ s.size) {n a' : Nat} {e' : Int} (hq : rdCount s a e 4 = (n, a', e')) :
    Calls Tryz.prog 56 #[.pointer (some ⟨p, 0, none⟩), .int .i64 4] w fun r w' => r = .returned (.int .i64 n) ∧ Rd w' p s a' e' ∧ Fr w w' (fun k => k = p) := by
  have := rcount_any (most := 4) h hs ha (by decide)
  rw [hq] at this
  exact this
theorem r_ct1000J {w : World} {p : Nat} {s : ByteArray} {a : Nat} {e : Int} (h : Rd w p s a e) (hs : s.size ≤ maxLen) (ha : a ≤ s.size) {n a' : Nat} {e' : Int} (hq : rdCount s a e 1000 = (n, a', e')) :
    Calls Tryz.prog 56 #[.pointer (some ⟨p, 0, none⟩), .int .i64 1000] w fun r w' => r = .returned (.int .i64 n) ∧ Rd w' p s a' e' ∧ Fr w w' (fun k => k = p) := by
  have := rcount_any (most := 1000) h hs ha (by decide)
  rw [hq] at this
  exact this
theorem r_ct65536 {w : World} {p : Nat} {s : ByteArray} {a : Nat} {e : Int} (h : Rd w p s a e) (hs : s.size ≤ maxLen) (ha : a ≤ s.size) {n a' : Nat} {e' : Int} (hq : rdCount s a e 65536 = (n, a', e')) :
    Calls Tryz.prog 56 #[.pointer (some ⟨p, 0, none⟩), .int .i64 65536] w fun r w' => r = .returned (.int .i64 n) ∧ Rd w' p s a' e' ∧ Fr w w' (fun k => k = p) := by
  have := rcount_any (most := 65536) h hs ha (by decide)
  rw [hq] at this
  exact this
theorem r_ct16 {w : World} {p : Nat} {s : ByteArray} {a : Nat} {e : Int} (h : Rd w p s a e) (hs : s.size ≤ maxLen) (ha : a ≤ s.size) {n a' : Nat} {e' : Int} (hq : rdCount s a e 16 = (n, a', e')) :
    Calls Tryz.prog 56 #[.pointer (some ⟨p, 0, none⟩), .int .i64 16] w fun r w' => r = .returned (.int .i64 n) ∧ Rd w' p s a' e' ∧ Fr w w' (fun k => k = p) := by
  have := rcount_any (most := 16) h hs ha (by decide)
  rw [hq] at this
  exact this
theorem KI.p {w : World} {base : Nat} {ao : Option Addr} {n c : Nat} {L : List Int} (h : KI w base (.slice ao n c) L) : IsP w (fun k => base ≤ k) ao L := by
  intro hl
  have hn : n = L.length := by obtain ⟨_, _, e⟩ := k_shape h; cases e; rfl
  subst hn
  obtain ⟨g, rfl, hb, hc⟩ := k_at h hl
  refine ⟨g, 0, rfl, hb, fun j hj => ?_⟩
  rw [Nat.zero_add]
  exact hc j _ (by simp [hj])
set_option maxRecDepth 100000 in
set_option maxHeartbeats 2000000 in
theorem takep_any {w : World} {p : Nat} {s : ByteArray} {a n a1 a2 : Nat} {e e1 e2 : Int} {ps : List Int} (h : Rd w p s a e) (hs : s.size ≤ maxLen) (ha : a ≤ s.size) (hq1 : rdCount s a e 4 = (n, a1, e1)) (hq2 : rdPs s n a1 e1 [] = (ps, a2, e2)) :
    Calls Tryz.prog 55 #[.pointer (some ⟨p, 0, none⟩)] w fun r w' => (∃ po pc, r = .returned (.slice po ps.length pc) ∧ KI w' w.heap.size (.slice po ps.length pc) ps) ∧ Rd w' p s a2 e2 ∧ Fr w w' (fun k => k = p) := by
  obtain ⟨i0, hi, hz0, hz1, hz2⟩ := info_parts infoKI
  have g1 := rdCount_to (most := 4) ha hq1
  have hn : n ≤ 4 := g1.2.1
  have hpw := h.lt
  have HR0 : Hid _ := h
  have HQ1 : Hid _ := hq1
  have HQ2 : Hid _ := hq2
  have G1 : Hid _ := g1.1
  clear h hq1 hq2 g1
  go_enter Tryz.func55, Tryz.ntmps55
  go_upto_block 0 with (go_at_call 56; refine (r_ct4 HR0.out hs ha HQ1.out).mono ?_; rintro r w1 ⟨rfl, hr1, hf1⟩; have HR1 : Hid _ := hr1; have HF1 : Hid _ := hf1; clear hr1 hf1)
  go_wp2
  go_loopw [3, 6] (fun u i wr => ∃ (j : Nat) (ao : Option Addr) (c : Nat) (M : List Int) (x : Nat) (y : Int), j ≤ n ∧ u = .slice ao j c ∧ i = .int .i64 j ∧ Hid (rdPs s n a1 e1 [] = rdPs s (n - j) x y M) ∧ Hid (x ≤ s.size ∧ M.length = j) ∧ Hid (KI wr w.heap.size (.slice ao j c) M) ∧ Hid (Rd wr p s x y) ∧ Hid (Fr w wr (fun k => k = p))) (fun _ i _ => n - (intOf i).toNat)
  case atStart => exact ⟨0, none, 0, [], a1, e1, Nat.zero_le _, rfl, rfl, (rfl : rdPs s n a1 e1 [] = rdPs s (n - 0) a1 e1 []), ⟨G1.out, rfl⟩, World.ownsRow_nil _ _ _ _, HR1.out, HF1.out⟩
  case round =>
    obtain ⟨j, ao, c, M, x, y, hj, rfl, rfl, HS, HX, HK, HR, HF⟩ := hrel
    clear HR1 HF1
    by_cases hjn : j < n
    · obtain ⟨⟨n1, x1, y1⟩, q1⟩ : ∃ q, rdNum s x y = q := ⟨_, rfl⟩
      have g1 := rdNum_to HX.out.1 q1
      have HN : Hid (rdPs s (n - j) x y M = rdPs s (n - (j + 1)) x1 y1 (M ++ [unfoldN n1])) := by
        show _ = _
        rw [show n - j = (n - (j + 1)) + 1 by omega]
        exact rdPs_step q1
      have Q1 : Hid _ := q1
      have GG : Hid _ := g1.1
      clear q1 g1
      have hws := HF.out.size
      go_wp2_with (first
        | (go_at_call 119; refine (r_sgJ HR.out hs HX.out.1 Q1.out).mono ?_; rintro r w2 ⟨rfl, hr2, hf2⟩; have HR2 : Hid (Rd w2 p s x1 y1) := hr2; have HF2 : Hid (Fr wr w2 (fun k => k = p)) := hf2; have HK2 : Hid (w2.ownsRow w.heap.size 2 1 (.slice ao j c) j (M.map (Value.int .i64))) := (by have h2 := k_fr HK.out hf2 (fun k hk e => by omega); rw [HX.out.2] at h2; exact h2); have hs2 := hf2.size; clear hr2 hf2)
        | (at_builtin; refine wpList_append_own_at _ rfl _ _ 25 rfl w.heap.size 2 i0 (.int .i64 0) 1 8 Tryz.underlying25 hi hz0 hz1 hz2 rfl (by decide) (.slice ao j c) j (M.map (Value.int .i64)) rfl (k_new HK2.out (one_newK _ _)) ⟨w2.heap.size, 0, none⟩ 1 1 [.int .i64 (unfoldN n1)] rfl rfl (k_one1 (heap_alloc_new _ _)) (k_oneI _) (by unfold maxLen; omega) (by omega) (by simp; omega) ?_))
      intro v' w4 hown hgrow hne hat
      have hM4 : KI w4 w.heap.size v' (M ++ [unfoldN n1]) := ki_snoc HX.out.2.symm hown
      have hfg : Fr (w2.alloc (.cells #[.int .i64 (unfoldN n1)] 2)) w4 (fun k => w.heap.size ≤ k) := Fr.grown hgrow (fun k hk => (World.ownsRow.lt HK.out k hk).1)
      have hf4 : Fr w w4 (fun k => k = p) := ((HF.out.trans HF2.out (fun _ _ h => h)).trans (Fr.alloc w2 (.cells #[.int .i64 (unfoldN n1)] 2) (fun _ => False)) (fun _ _ h => h.elim)).trans hfg (fun k hk h => by omega)
      have hr4 : Rd w4 p s x1 y1 := (HR2.out.kept (Fr.alloc w2 (.cells #[.int .i64 (unfoldN n1)] 2) (fun _ => False)) (fun h => h)).kept hfg (by omega)
      obtain ⟨ao', c', rfl⟩ := k_shape hM4
      have e1 : (M ++ [unfoldN n1]).length = j + 1 := by rw [List.length_append, HX.out.2]; rfl
      rw [e1] at hM4 ⊢
      have HM4 : Hid _ := hM4
      have HF4 : Hid _ := hf4
      have HR4 : Hid _ := hr4
      have HE1 : Hid _ := e1
      clear hM4 hf4 hr4 hfg hown hgrow hne hat e1
      go_wp2
      go_roundw
      case rel => exact ⟨j + 1, ao', c', M ++ [unfoldN n1], x1, y1, by omega, rfl, by go_num, (by show _ = _; rw [HS.out, HN.out]), ⟨GG.out, HE1.out⟩, HM4.out, HR4.out, HF4.out⟩
      case measure => simp [intOf]; omega
    · obtain rfl : j = n := by omega
      have hM : ps = M ∧ a2 = x ∧ e2 = y := by
        have hE : (ps, a2, e2) = (M, x, y) := by rw [← HQ2.out, HS.out, Nat.sub_self]; rfl
        injection hE with u1 u2
        injection u2 with u2 u3
        exact ⟨u1, u2, u3⟩
      obtain ⟨rfl, rfl, rfl⟩ := hM
      have HL : Hid (ps.length = j) := HX.out.2
      clear HS HQ2
      go_wp2
      refine bodyPost_ret (v := .slice ao j c) (by simp [results, Tryz.results55, go_sem]) rfl ?_
      exact ⟨⟨ao, c, by rw [HL.out], by rw [HL.out]; exact HK.out⟩, HR.out, HF.out⟩
/-- Between two parts of a job. -/
structure TJ (w wr : World) (p ob : Nat) (s : ByteArray) (go po : Option Addr) (G : List Vx) (ps : List Int) (cs : Array Value) (x : Nat) (y : Int) : Prop where
  rd : Rd wr p s x y
  box : JobBoxC wr ob cs
  res : JobBoxC wr w.heap.size #[.string ByteArray.empty, .slice none 0 0, .slice none 0 0, .int .i64 0, .int .i64 0, .int .i64 0]
  gr : VxAt wr (fun k => w.heap.size < k ∧ k < ob) go G
  par : IsP wr (fun k => w.heap.size < k ∧ k < ob) po ps
  fr : Fr w wr (fun k => k = p)
  sep : p < w.heap.size ∧ w.heap.size < ob ∧ ob < wr.heap.size
theorem jb_fr {W W' : World} {b : Nat} {c : Array Value} {S : Nat → Prop} (f : Fr W W' S) (hb : ¬ S b) (h : JobBoxC W b c) : JobBoxC W' b c := (f.block b (Array.getElem?_eq_some_iff.1 h).1 hb).trans h
theorem TJ.step {w wr w1 : World} {p ob : Nat} {s : ByteArray} {go po : Option Addr} {G : List Vx} {ps : List Int} {cs : Array Value} {x x' : Nat} {y y' : Int} (h : TJ w wr p ob s go po G ps cs x y) (f : Fr wr w1 (fun k => k = p)) (hr : Rd w1 p s x' y') : TJ w w1 p ob s go po G ps cs x' y' :=
  ⟨hr, jb_fr f (by have := h.sep; omega) h.box, jb_fr f (by have := h.sep; omega) h.res, h.gr.kept f (fun k _ hk => ⟨by have := h.sep; omega, hk⟩), h.par.kept f (fun k _ hk => ⟨by have := h.sep; omega, hk⟩), h.fr.trans f (fun _ _ h => h), by have := h.sep; have := f.size; omega⟩
theorem TJ.set {w wr : World} {p ob : Nat} {s : ByteArray} {go po : Option Addr} {G : List Vx} {ps : List Int} {cs : Array Value} {x : Nat} {y : Int} (h : TJ w wr p ob s go po G ps cs x y) (i : Nat) (v : Value) : TJ w (wr.setCell ⟨ob, i, none⟩ v) p ob s go po G ps (cs.setIfInBounds i v) x y := by
  have f : Fr wr (wr.setCell ⟨ob, i, none⟩ v) (fun k => k = ob) := Fr.setCell _ _ _ rfl
  have hs := h.sep
  exact ⟨h.rd.kept f (by omega), set_heap h.box i v, jb_fr f (by omega) h.res, h.gr.kept f (fun k _ hk => ⟨by omega, hk⟩), h.par.kept f (fun k _ hk => ⟨by omega, hk⟩), h.fr.trans f (fun k hk e => by omega), by have := f.size; omega⟩
theorem jb_froz {W : World} {b o : Nat} {c : Array Value} (h : JobBoxC W b c) : W.frozen? ⟨b, o, none⟩ = false := by unfold JobBoxC at h; simp [World.frozen?, h]
set_option maxRecDepth 100000 in
set_option maxHeartbeats 4000000 in
theorem takej_any {w : World} {p : Nat} {s t : ByteArray} {a0 : Nat} {e0 : Int} {G : List Vx} {n : Nat} {ps : List Int} {st se pa a1 a2 a3 a4 a5 a6 a7 : Nat} {e1 e2 e3 e4 e5 e6 e7 ee : Int} (h : Rd w p s a0 e0) (hs : s.size ≤ maxLen) (ha : a0 ≤ s.size) (hJ : JR s a0 e0 t G n ps st se pa a1 a2 a3 a4 a5 a6 a7 e1 e2 e3 e4 e5 e6 e7) (he : jErr e7 t G ps st se pa = ee) :
    Calls Tryz.prog 17 #[.pointer (some ⟨p, 0, none⟩)] w fun r w' => ((ee = 0 ∧ ∃ go gc po pc, r = .returned (.agg #[.string t, .slice go G.length gc, .slice po ps.length pc, .int .i64 (st : Int), .int .i64 (se : Int), .int .i64 (pa : Int)]) ∧ VxAt w' (fun k => w.heap.size ≤ k) go G ∧ IsP w' (fun k => w.heap.size ≤ k) po ps) ∨ (¬ ee = 0 ∧ r = .returned (.agg #[.string ByteArray.empty, .slice none 0 0, .slice none 0 0, .int .i64 0, .int .i64 0, .int .i64 0]))) ∧ Rd w' p s a7 ee ∧ Fr w w' (fun k => k = p) := by
  have HTo : Hid _ := hJ.to ha
  have HJ : Hid _ := hJ
  have hpw := h.lt
  have HD : Hid (Rd w p s a0 e0) := h
  clear h hJ
  go_enter Tryz.func17, Tryz.ntmps17
  go_upto_region 1 with (fail)
  generalize hW0 : World.alloc w _ = W0
  have hb0 : Below w.heap.size w W0 := by rw [← hW0]; exact one_new _ _
  have HR0 : Hid (JobBoxC W0 w.heap.size #[.string ByteArray.empty, .slice none 0 0, .slice none 0 0, .int .i64 0, .int .i64 0, .int .i64 0]) := by rw [← hW0]; exact heap_alloc_new _ _
  have hz0 : W0.heap.size = w.heap.size + 1 := by rw [← hW0]; simp
  have HD0 : Hid (Rd W0 p s a0 e0) := HD.out.below hb0
  have HB0 : Hid _ := hb0
  clear hb0 HD hW0
  go_upto_region 2 with (first
    | (go_at_call 53; refine (rtext_j HD0.out hs ha HJ.out.h1).mono ?_; rintro r w1 ⟨rfl, hr1, hf1⟩; have HR1 : Hid (Rd w1 p s a1 e1) := hr1; have HF1 : Hid (Fr W0 w1 (fun k => k = p)) := hf1; clear hr1 hf1)
    | (go_at_call 54; refine (take_to HR1.out hs HTo.out.b1 HJ.out.h2).mono ?_; rintro r w2 ⟨go, gc, rfl, hV2, hr2, hf2⟩; have HR2 : Hid (Rd w2 p s a2 e2) := hr2; have HF2 : Hid (Fr w1 w2 (fun k => k = p)) := hf2; have HV2 : Hid (VxAt w2 (fun k => w1.heap.size ≤ k) go G) := hV2; clear hr2 hf2 hV2)
    | (go_at_call 55; refine (takep_any HR2.out hs HTo.out.b2 HJ.out.h3 HJ.out.h4).mono ?_; rintro r w3 ⟨⟨po, pc, rfl, hK3⟩, hr3, hf3⟩; have HR3 : Hid (Rd w3 p s a4 e4) := hr3; have HF3 : Hid (Fr w2 w3 (fun k => k = p)) := hf3; have HK3 : Hid (KI w3 w2.heap.size (.slice po ps.length pc) ps) := hK3; clear hr3 hf3 hK3))
  generalize hW4 : World.alloc w3 _ = W4
  have hb4 : Below w3.heap.size w3 W4 := by rw [← hW4]; exact one_new _ _
  have hj4 : JobBoxC W4 w3.heap.size #[.string t, .slice go G.length gc, .slice po ps.length pc, .int .i64 0, .int .i64 0, .int .i64 0] := by rw [← hW4]; exact heap_alloc_new _ _
  have hz4 : W4.heap.size = w3.heap.size + 1 := by rw [← hW4]; simp
  have s1 := HF1.out.size
  have s2 := HF2.out.size
  have s3 := HF3.out.size
  have HT4 : Hid (TJ w W4 p w3.heap.size s go po G ps #[.string t, .slice go G.length gc, .slice po ps.length pc, .int .i64 0, .int .i64 0, .int .i64 0] a4 e4) := by
    have f03 : Fr W0 w3 (fun k => k = p) := (HF1.out.trans HF2.out (fun _ _ h => h)).trans HF3.out (fun _ _ h => h)
    have f4 : Fr w3 W4 (fun _ => False) := Fr.ofBelow hb4 _
    refine ⟨HR3.out.below hb4, hj4, jb_fr f4 (fun h => h) (jb_fr f03 (by omega) HR0.out), ?_, ?_, ?_, by omega, by omega, by omega⟩
    · refine ((HV2.out.mono (Q := fun k => w1.heap.size ≤ k ∧ k < w2.heap.size) (fun k hk hp => ⟨hp, hk⟩)).kept HF3.out (Q := fun k => w.heap.size < k ∧ k < w3.heap.size) (fun k _ hk => ⟨by omega, by omega⟩)).kept f4 (fun k _ hk => ⟨fun h => h, hk⟩)
    · exact (HK3.out.p.mono (Q := fun k => w.heap.size < k ∧ k < w3.heap.size) (fun k hk hp => ⟨by omega, hk⟩)).kept f4 (fun k _ hk => ⟨fun h => h, hk⟩)
    · exact (((Fr.ofBelow HB0.out (fun k => k = p)).trans f03 (fun _ _ h => h))).trans f4 (fun _ _ h => h.elim)
  clear hW4 hb4 hj4 hz4 s1 s2 s3 HR0 HD0 HB0 HR1 HR2 HR3 HF1 HF2 HF3 HV2 HK3 hz0
  generalize w3.heap.size = ob at *
  clear w1 w2 w3 W0
  go_upto_region 3 with (go_at_call 56; refine (r_ct1000J HT4.out.rd hs HTo.out.b4 HJ.out.h5).mono ?_; rintro r w5 ⟨rfl, hr5, hf5⟩; have HT5 : Hid _ := HT4.out.step hf5 hr5; have z5 := jb_froz (o := 3) HT5.out.box; have k5 := (job_cells HT5.out.box).2.2.2.1; clear hr5 hf5)
  generalize hW6 : World.setCell w5 _ _ = W6
  have HT6 : Hid (TJ w W6 p ob s go po G ps #[.string t, .slice go G.length gc, .slice po ps.length pc, .int .i64 (st : Int), .int .i64 0, .int .i64 0] a5 e5) := by rw [← hW6]; exact HT5.out.set 3 _
  clear hW6 HT4 HT5 z5 k5
  go_upto_region 4 with (go_at_call 56; refine (r_ct65536 HT6.out.rd hs HTo.out.b5 HJ.out.h6).mono ?_; rintro r w7 ⟨rfl, hr7, hf7⟩; have HT7 : Hid _ := HT6.out.step hf7 hr7; have z7 := jb_froz (o := 4) HT7.out.box; have k7 := (job_cells HT7.out.box).2.2.2.2.1; clear hr7 hf7)
  generalize hW8 : World.setCell w7 _ _ = W8
  have HT8 : Hid (TJ w W8 p ob s go po G ps #[.string t, .slice go G.length gc, .slice po ps.length pc, .int .i64 (st : Int), .int .i64 (se : Int), .int .i64 0] a6 e6) := by rw [← hW8]; exact HT7.out.set 4 _
  clear hW8 HT6 HT7 z7 k7
  go_upto_region 5 with (go_at_call 56; refine (r_ct16 HT8.out.rd hs HTo.out.b6 HJ.out.h7).mono ?_; rintro r w9 ⟨rfl, hr9, hf9⟩; have HT9 : Hid _ := HT8.out.step hf9 hr9; have z9 := jb_froz (o := 5) HT9.out.box; have k9 := (job_cells HT9.out.box).2.2.2.2.2; clear hr9 hf9)
  generalize hW10 : World.setCell w9 _ _ = WA
  have HTA : Hid (TJ w WA p ob s go po G ps #[.string t, .slice go G.length gc, .slice po ps.length pc, .int .i64 (st : Int), .int .i64 (se : Int), .int .i64 (pa : Int)] a7 e7) := by rw [← hW10]; exact HT9.out.set 5 _
  clear hW10 HT8 HT9 z9 k9
  have hC := checkJ_any (s := t) (gc := gc) (pc := pc) (st := (st : Int)) (se := (se : Int)) (pa := (pa : Int)) rfl rfl HTA.out.gr HTo.out.gok (by have := HTo.out.gl; omega) HTA.out.par.at (by have := HTo.out.len; have := HTo.out.nle; omega)
  have HC : Hid _ := hC
  have HEe : Hid (rdFail e7 (jobN t G ps st se pa) = ee) := he
  clear he hC
  go_upto_region 6 with (first
    | (refine wpList_load_row rfl 27 _ rfl ob rfl 27 #[.string t, .slice go G.length gc, .slice po ps.length pc, .int .i64 (st : Int), .int .i64 (se : Int), .int .i64 (pa : Int)] (0, 0) _ HTA.out.box Tryz.underlying27 rfl size_jobJ ?_)
    | (go_at_call 42; refine Calls.mono HC.out ?_; rintro r wB ⟨rfl, hbB⟩; have HTB : Hid _ := HTA.out.step (Fr.ofBelow hbB _) (HTA.out.rd.below hbB); clear hbB)
    | (go_at_call 57; refine (rfail_any HTB.out.rd).mono ?_; rintro r wC ⟨rfl, hrC, hfC⟩; rw [HEe.out] at hrC; have HTC : Hid _ := HTB.out.step hfC hrC; clear hrC hfC))
  clear HTA HTB HC HEe HJ HTo
  have hsp := HTC.out.sep
  by_cases hz : ee = 0
  · have hzb : (ee != 0) = false := by simpa using hz
    have HZ : Hid _ := hz
    clear hz
    go_wp2_with (first
      | (go_at_call 58; refine (err_any HTC.out.rd).mono ?_; rintro r wD ⟨rfl, hwD⟩; subst hwD)
      | (refine wpList_load_row rfl 27 _ rfl ob rfl 27 #[.string t, .slice go G.length gc, .slice po ps.length pc, .int .i64 (st : Int), .int .i64 (se : Int), .int .i64 (pa : Int)] (0, 0) _ HTC.out.box Tryz.underlying27 rfl size_jobJ ?_)
      | (refine wpList_store_row rfl 27 _ _ rfl w.heap.size #[.string t, .slice go G.length gc, .slice po ps.length pc, .int .i64 (st : Int), .int .i64 (se : Int), .int .i64 (pa : Int)] rfl rfl 27 #[.string ByteArray.empty, .slice none 0 0, .slice none 0 0, .int .i64 0, .int .i64 0, .int .i64 0] HTC.out.res size_jobJ rfl (by simp [Value.oneCell']) ?_))
    refine bodyPost_ret (v := .agg #[.string t, .slice go G.length gc, .slice po ps.length pc, .int .i64 (st : Int), .int .i64 (se : Int), .int .i64 (pa : Int)]) (results_cell_row Tryz.results17 _ _ w.heap.size 27 _ (0, 0) _ rfl (setRow_heap _ _ _ _ _ _ HTC.out.res) Tryz.underlying27 rfl size_jobJ) rfl ?_
    have fS := fr_setRow wD w.heap.size #[.string t, .slice go G.length gc, .slice po ps.length pc, .int .i64 (st : Int), .int .i64 (se : Int), .int .i64 (pa : Int)]
    exact ⟨.inl ⟨HZ.out, go, gc, po, pc, rfl, HTC.out.gr.kept fS (fun k _ hk => ⟨by omega, by omega⟩), HTC.out.par.kept fS (fun k _ hk => ⟨by omega, by omega⟩)⟩, HTC.out.rd.kept fS (fun e => by omega), HTC.out.fr.trans fS (fun k hk e => by omega)⟩
  · have hzb : (ee != 0) = true := by simpa using hz
    go_wp2_with (first
      | (go_at_call 58; refine (err_any HTC.out.rd).mono ?_; rintro r wD ⟨rfl, hwD⟩; subst hwD)
      | (refine wpList_store_row rfl 27 _ _ rfl w.heap.size #[.string ByteArray.empty, .slice none 0 0, .slice none 0 0, .int .i64 0, .int .i64 0, .int .i64 0] rfl rfl 27 #[.string ByteArray.empty, .slice none 0 0, .slice none 0 0, .int .i64 0, .int .i64 0, .int .i64 0] HTC.out.res size_jobJ rfl (by simp [Value.oneCell']) ?_))
    refine bodyPost_ret (v := .agg #[.string ByteArray.empty, .slice none 0 0, .slice none 0 0, .int .i64 0, .int .i64 0, .int .i64 0]) (results_cell_row Tryz.results17 _ _ w.heap.size 27 _ (0, 0) _ rfl (setRow_heap _ _ _ _ _ _ HTC.out.res) Tryz.underlying27 rfl size_jobJ) rfl ?_
    have fS := fr_setRow wD w.heap.size #[.string ByteArray.empty, .slice none 0 0, .slice none 0 0, .int .i64 0, .int .i64 0, .int .i64 0]
    exact ⟨.inr ⟨hz, rfl⟩, HTC.out.rd.kept fS (fun e => by omega), HTC.out.fr.trans fS (fun k hk e => by omega)⟩
end Go.Proofs.YtidghoipmggklaaGreat
end

section
/- run.DecodeJob: the job of bytes. -/
namespace Go.Proofs.YtidghoipmggklaaGreat
open Go.RowKit
theorem takej_good {w : World} {p : Nat} {s t : ByteArray} {a0 : Nat} {e0 : Int} {G : List Vx} {n : Nat} {ps : List Int} {st se pa a1 a2 a3 a4 a5 a6 a7 : Nat} {e1 e2 e3 e4 e5 e6 e7 : Int} (h : Rd w p s a0 e0) (hs : s.size ≤ maxLen) (ha : a0 ≤ s.size) (hJ : JR s a0 e0 t G n ps st se pa a1 a2 a3 a4 a5 a6 a7 e1 e2 e3 e4 e5 e6 e7) (he : jErr e7 t G ps st se pa = 0) :
    Calls Tryz.prog 17 #[.pointer (some ⟨p, 0, none⟩)] w fun r w' => (∃ go gc po pc, r = .returned (.agg #[.string t, .slice go G.length gc, .slice po ps.length pc, .int .i64 (st : Int), .int .i64 (se : Int), .int .i64 (pa : Int)]) ∧ VxAt w' (fun k => w.heap.size ≤ k) go G ∧ IsP w' (fun k => w.heap.size ≤ k) po ps) ∧ Rd w' p s a7 0 ∧ Fr w w' (fun k => k = p) := by
  refine (takej_any h hs ha hJ he).mono ?_
  rintro r w' ⟨⟨_, go, gc, po, pc, rfl, h3, h4⟩ | ⟨h3, _⟩, h1, h2⟩
  · exact ⟨⟨_, _, _, _, rfl, h3, h4⟩, h1, h2⟩
  · exact absurd rfl h3
set_option maxRecDepth 100000 in
set_option maxHeartbeats 2000000 in
theorem decj_good {w : World} {s t : ByteArray} {G : List Vx} {n : Nat} {ps : List Int} {st se pa a1 a2 a3 a4 a5 a6 a7 : Nat} {e1 e2 e3 e4 e5 e6 e7 : Int} (hs : s.size ≤ maxLen) (hJ : JR s 0 0 t G n ps st se pa a1 a2 a3 a4 a5 a6 a7 e1 e2 e3 e4 e5 e6 e7) (he : jErr e7 t G ps st se pa = 0) (hz : rdEnd s a7 0 = 0) :
    Calls Tryz.prog 12 #[.string s] w fun r w' => (∃ go gc po pc, r = .returned (.tuple #[.agg #[.string t, .slice go G.length gc, .slice po ps.length pc, .int .i64 (st : Int), .int .i64 (se : Int), .int .i64 (pa : Int)], .int .i64 0]) ∧ VxAt w' (fun k => w.heap.size ≤ k) go G ∧ IsP w' (fun k => w.heap.size ≤ k) po ps) ∧ Below w.heap.size w w' := by
  have hT := hJ.to (Nat.zero_le _)
  have HB7 : Hid _ := hT.b7
  have HJ : Hid _ := hJ
  have HE : Hid _ := he
  have HZ : Hid _ := hz
  clear hT hJ he hz
  go_enter Tryz.func12, Tryz.ntmps12
  go_upto_region 1 with (fail)
  generalize hW0 : World.alloc w _ = W0
  have hb0 : Below w.heap.size w W0 := by rw [← hW0]; exact one_new _ _
  have HR0 : Hid (JobBoxC W0 w.heap.size #[.string ByteArray.empty, .slice none 0 0, .slice none 0 0, .int .i64 0, .int .i64 0, .int .i64 0]) := by rw [← hW0]; exact heap_alloc_new _ _
  have HZ0 : Hid (W0.heap.size = w.heap.size + 1) := by show _ = _; rw [← hW0]; simp
  have HB0 : Hid _ := hb0
  clear hb0 hW0
  go_upto_region 2 with (go_at_call 15; refine (newreader_any _ _).mono ?_; rintro r w1 ⟨rfl, hr1, hb1⟩)
  have HR1 : Hid (Rd w1 W0.heap.size s ((0 : Nat) : Int) 0) := hr1
  have HB1 : Hid (Below W0.heap.size W0 w1) := hb1
  clear hr1 hb1
  go_upto_region 3 with (go_at_call 17; refine Calls.mono (takej_good HR1.out hs (Nat.zero_le _) HJ.out HE.out) ?_; rintro r w2 ⟨⟨go, gc, po, pc, rfl, hV2, hP2⟩, hr2, hf2⟩; have HR2 : Hid (Rd w2 W0.heap.size s a7 0) := hr2; have HF2 : Hid (Fr w1 w2 (fun k => k = W0.heap.size)) := hf2; have HV2 : Hid (VxAt w2 (fun k => w1.heap.size ≤ k) go G) := hV2; have HP2 : Hid (IsP w2 (fun k => w1.heap.size ≤ k) po ps) := hP2; clear hr2 hf2 hV2 hP2)
  generalize hW3 : World.alloc w2 _ = W3
  have hb3 : Below w2.heap.size w2 W3 := by rw [← hW3]; exact one_new _ _
  have HR3 : Hid (Rd W3 W0.heap.size s a7 0) := HR2.out.below hb3
  have HX3 : Hid (JobBoxC W3 w2.heap.size #[.string t, .slice go G.length gc, .slice po ps.length pc, .int .i64 (st : Int), .int .i64 (se : Int), .int .i64 (pa : Int)]) := by rw [← hW3]; exact heap_alloc_new _ _
  have HJ3 : Hid (JobBoxC W3 w.heap.size #[.string ByteArray.empty, .slice none 0 0, .slice none 0 0, .int .i64 0, .int .i64 0, .int .i64 0]) := jb_fr (Fr.ofBelow hb3 (fun _ => False)) (fun h => h) (jb_fr HF2.out (by have := HZ0.out; omega) (jb_fr (Fr.ofBelow HB1.out (fun _ => False)) (fun h => h) HR0.out))
  have s1 := lt_of_block HR1.out
  have s2 := HF2.out.size
  have HV3 : Hid (VxAt W3 (fun k => w1.heap.size ≤ k) go G) := HV2.out.new hb3
  have HP3 : Hid (IsP W3 (fun k => w1.heap.size ≤ k) po ps) := HP2.out.new hb3
  have HB3 : Hid (Below w.heap.size w W3) := by
    have h1 := HB0.out.trans (HB1.out.mono HB0.out.size)
    have h2 := h1.trans (HF2.out.below h1.size (fun k hk => by have := HZ0.out; omega))
    exact h2.trans (hb3.mono h2.size)
  clear hW3 hb3 HR2 HF2 HR0 HB0 HR1 HB1 HV2 HP2
  go_wp2_with (first
    | (go_at_call 48; refine (rend_to HR3.out hs HB7.out HZ.out).mono ?_; rintro r w7 ⟨rfl, _, hf7⟩; have HF7 : Hid (Fr W3 w7 (fun k => k = W0.heap.size)) := hf7; have HJ7 : Hid (JobBoxC w7 w.heap.size #[.string ByteArray.empty, .slice none 0 0, .slice none 0 0, .int .i64 0, .int .i64 0, .int .i64 0]) := jb_fr hf7 (by have := HZ0.out; omega) HJ3.out; have HX7 : Hid (JobBoxC w7 w2.heap.size #[.string t, .slice go G.length gc, .slice po ps.length pc, .int .i64 (st : Int), .int .i64 (se : Int), .int .i64 (pa : Int)]) := jb_fr hf7 (by have := HZ0.out; omega) HX3.out; clear hf7)
    | (refine wpList_load_row rfl 27 _ rfl w2.heap.size rfl 27 #[.string t, .slice go G.length gc, .slice po ps.length pc, .int .i64 (st : Int), .int .i64 (se : Int), .int .i64 (pa : Int)] (0, 0) _ HX7.out Tryz.underlying27 rfl size_jobJ ?_)
    | (refine wpList_store_row rfl 27 _ _ rfl w.heap.size #[.string t, .slice go G.length gc, .slice po ps.length pc, .int .i64 (st : Int), .int .i64 (se : Int), .int .i64 (pa : Int)] rfl rfl 27 #[.string ByteArray.empty, .slice none 0 0, .slice none 0 0, .int .i64 0, .int .i64 0, .int .i64 0] HJ7.out size_jobJ rfl (by simp [Value.oneCell']) ?_))
  refine bodyPost_ret (v := .tuple #[.agg #[.string t, .slice go G.length gc, .slice po ps.length pc, .int .i64 (st : Int), .int .i64 (se : Int), .int .i64 (pa : Int)], .int .i64 0]) (res_ctJ Tryz.results12 _ _ w.heap.size 27 _ (0, 0) _ rfl (setRow_heap _ _ _ _ _ _ HJ7.out) Tryz.underlying27 rfl size_jobJ) rfl ?_
  have hl7 : Below w.heap.size w w7 := HB3.out.trans (HF7.out.below HB3.out.size (fun k hk => by have := HZ0.out; omega))
  have fS := fr_setRow w7 w.heap.size #[.string t, .slice go G.length gc, .slice po ps.length pc, .int .i64 (st : Int), .int .i64 (se : Int), .int .i64 (pa : Int)]
  refine ⟨⟨go, gc, po, pc, rfl, ?_, ?_⟩, k_setRow hl7 (Nat.le_refl _) _⟩
  · exact (HV3.out.kept HF7.out (Q := fun k => w1.heap.size ≤ k) (fun k _ hk => ⟨by have := HZ0.out; omega, hk⟩)).kept fS (fun k _ hk => ⟨by have := HZ0.out; omega, by have := HZ0.out; omega⟩)
  · exact (HP3.out.kept HF7.out (Q := fun k => w1.heap.size ≤ k) (fun k _ hk => ⟨by have := HZ0.out; omega, hk⟩)).kept fS (fun k _ hk => ⟨by have := HZ0.out; omega, by have := HZ0.out; omega⟩)
end Go.Proofs.YtidghoipmggklaaGreat
end
