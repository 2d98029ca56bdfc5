/- run.PutJob and run.EncodeJob: a job's bytes. -/
import Derived.Test.YtmgjlamglhpnaaaGreatJbMM
import Derived.Test.YtmgjlamglhpnaaaGreatGrClone2M
import Derived.Deep.Cut
import Derived.Deep.DeepCutAuto
import Derived.Deep.CutBlock
import Derived.Test.YtmgjlamglhpnaaaGreatRegMM
import Derived.Test.YtmgjlamglhpnaaaGreatRegUM
import Derived.Test.YtmgjlamglhpnaaaGreatGrTakeMM
import Derived.Test.YtmgjlamglhpnaaaGreatGrTake3M
namespace Go.Proofs.YtmgjlamglhpnaaaGreat
set_option maxRecDepth 100000
open Go.RowKit
def IsP (w : World) (P : Nat → Prop) (po : Option Addr) (L : List Int) : Prop := 0 < L.length → ∃ b off, po = some ⟨b, off, none⟩ ∧ P b ∧ ∀ j (h : j < L.length), w.cell? ⟨b, off + j, none⟩ = some (.int .i64 L[j])
theorem IsAt.toP {w : World} {po : Option Addr} {L : List Int} (h : IsAt w po L) : IsP w (fun k => k < w.heap.size) po L := fun hl => by
 obtain ⟨b, off, e, hc⟩ := h hl
 exact ⟨b, off, e, lt_cell (hc 0 hl), hc⟩
theorem IsP.at {w : World} {P : Nat → Prop} {po : Option Addr} {L : List Int} (h : IsP w P po L) : IsAt w po L := fun hl => by
 obtain ⟨b, off, e, _, hc⟩ := h hl
 exact ⟨b, off, e, hc⟩
theorem IsP.kept {w w' : World} {P Q S : Nat → Prop} {po : Option Addr} {L : List Int} (h : IsP w P po L) (f : Fr w w' S) (hs : ∀ k, k < w.heap.size → P k → ¬ S k ∧ Q k) : IsP w' Q po L := fun hl => by
 obtain ⟨b, off, e, hB, hc⟩ := h hl
 have hlt := lt_cell (hc 0 hl)
 exact ⟨b, off, e, (hs b hlt hB).2, fun j hj => fr_cell f (hs b hlt hB).1 (hc j hj)⟩
theorem IsP.new {w w' : World} {P : Nat → Prop} {po : Option Addr} {L : List Int} (h : IsP w P po L) (hb : Below w.heap.size w w') : IsP w' P po L := h.kept (Fr.ofBelow hb (fun _ => False)) (fun _ _ hp => ⟨fun h => h, hp⟩)
theorem IsP.mono {w : World} {P Q : Nat → Prop} {po : Option Addr} {L : List Int} (h : IsP w P po L) (hs : ∀ k, k < w.heap.size → P k → Q k) : IsP w Q po L := h.kept (Fr.refl w (fun _ => False)) (fun k hk hp => ⟨fun h => h, hs k hk hp⟩)
theorem size_jobJ : (Tryz.prog.info? 27).map (·.size) = some 6 := by kernel_rfl
theorem wtext_o {w0 w : World} {base p : Nat} {v : Value} {l : List UInt8} (s : ByteArray) (h : WTo w0 w base p v l) (hroom : l.length + s.size + 10 ≤ 140737488355328) :
  Calls Tryz.prog 24 #[.pointer (some ⟨p, 0, none⟩), .string s] w fun r w' => r = .returned (.tuple #[]) ∧ WTo w0 w' base p v (l ++ textB s.data.toList) := by
 obtain ⟨v1, hw, hf, hr⟩ := h
 exact (wtext_any s hw hroom).mono fun r w' ⟨h1, h2⟩ => ⟨h1, WTo.then hf hr h2⟩
theorem wput_o {w0 w : World} {base p : Nat} {l : List UInt8} {ao : Option Addr} (G : List Vx) (n cap : Nat) (hn : n = G.length) (h : WTo w0 w base p (.slice none 0 0) l) (hG : VxAt w0 (fun k => k < p) ao G) (hok : ∀ v ∈ G, v.ok) (hl : G.length ≤ 256) (hroom : l.length + 10 + room G ≤ 140737488355328) :
  Calls Tryz.prog 25 #[.pointer (some ⟨p, 0, none⟩), .agg #[.slice ao n cap]] w fun r w' => r = .returned (.tuple #[]) ∧ WTo w0 w' base p (.slice none 0 0) (l ++ grB G) := by
 obtain ⟨v1, hw, hf, hr⟩ := h
 subst hn
 refine (put_any G cap hw ?_ hok (by omega) hroom).mono fun r w' ⟨h1, h2⟩ => ⟨h1, WTo.then hf hr h2⟩
 refine hG.kept hf (fun k hk hp' => ⟨?_, by omega, ?_⟩)
 ·rintro (e | e)
  ·omega
  ·simp [Value.ownBlock] at e
 ·intro e
  rcases hr with e1 | ⟨g, e1, hg⟩
  ·rw [e1] at e; simp [Value.ownBlock] at e
  ·rw [e1] at e; simp at e; omega
theorem job_rooms {t : ByteArray} {G : List Vx} {ps : List Int} {st se pa : Nat} (ht : t.size ≤ 9) (hok : ∀ v ∈ G, v.ok) (hc : chk G = 0) (hpl : ps.length ≤ 4) (hpk : ∀ x ∈ ps, I64 x) (hst : st ≤ 1000) (hse : se ≤ 65536) (hpa : pa ≤ 16) :
  (textB t.data.toList).length ≤ 20 ∧ (grB G).length ≤ 50000 ∧ (numB ps.length).length ≤ 10 ∧ (∀ j, ((ps.take j).flatMap sgB).length ≤ 40) ∧ (ps.flatMap sgB).length ≤ 40 ∧ (numB st).length ≤ 10 ∧ (numB se).length ≤ 10 ∧ (numB pa).length ≤ 10 := by
 have hrm := room_ok hc hok
 have hlen := (chk_ok hc).1
 have h1 := vxsB_len G hok
 have h2 := numB_len10 (n := G.length) (by omega)
 have ht' : t.data.toList.length = t.size := by simp
 have h3 := numB_len10 (n := t.data.toList.length) (by omega)
 have hf : ∀ l : List Int, (∀ x ∈ l, I64 x) → (l.flatMap sgB).length ≤ 10 * l.length := by
  intro l
  induction l with
  | nil => intro _; simp
  | cons a l ih =>
   intro h
   have h4 := sgB_len (h a (by simp))
   have h5 := ih (fun x hx => h x (by simp [hx]))
   rw [List.flatMap_cons, List.length_append, List.length_cons]; omega
 refine ⟨?_, ?_, numB_len10 (by omega), fun j => ?_, ?_, numB_len10 (by omega), numB_len10 (by omega), numB_len10 (by omega)⟩
 ·unfold textB; rw [List.length_append]; omega
 ·unfold grB; rw [List.length_append]; omega
 ·have := hf (ps.take j) (fun x hx => hpk x (List.mem_of_mem_take hx))
  rw [List.length_take] at this
  omega
 ·have := hf ps hpk
  omega
theorem jobB_len {t : ByteArray} {G : List Vx} {ps : List Int} {st se pa : Nat} (ht : t.size ≤ 9) (hok : ∀ v ∈ G, v.ok) (hc : chk G = 0) (hpl : ps.length ≤ 4) (hpk : ∀ x ∈ ps, I64 x) (hst : st ≤ 1000) (hse : se ≤ 65536) (hpa : pa ≤ 16) : (jobB t G ps st se pa).length ≤ 60000 := by
 obtain ⟨r1, r2, r3, r4, r5, r6, r7, r8⟩ := job_rooms ht hok hc hpl hpk hst hse hpa
 unfold jobB
 simp only [List.length_append]
 omega
theorem ps_snoc (ps : List Int) (j : Nat) (h : j < ps.length) : (ps.take (j + 1)).flatMap sgB = (ps.take j).flatMap sgB ++ sgB ps[j] := by
 rw [List.take_succ_eq_append_getElem h, List.flatMap_append]; simp
set_option maxHeartbeats 2000000 in
theorem putj_any {w : World} {p : Nat} {go po : Option Addr} {gn gc pn pc : Nat} {t : ByteArray} {G : List Vx} {ps : List Int} {st se pa : Nat} (hn : gn = G.length) (hp : pn = ps.length) (h : Wr w (p + 1) p (.slice none 0 0) []) (hG : VxAt w (fun k => k < p) go G) (hP : IsP w (fun k => k < p) po ps) (ht : t.size ≤ 9) (hok : ∀ v ∈ G, v.ok) (hc : chk G = 0) (hpl : ps.length ≤ 4) (hpk : ∀ x ∈ ps, I64 x) (hst : st ≤ 1000) (hse : se ≤ 65536) (hpa : pa ≤ 16) :
  Calls Tryz.prog 10 #[.pointer (some ⟨p, 0, none⟩), .agg #[.string t, .slice go gn gc, .slice po pn pc, .int .i64 (st : Int), .int .i64 (se : Int), .int .i64 (pa : Int)]] w fun r w' => r = .returned (.tuple #[]) ∧ WTo w w' (p + 1) p (.slice none 0 0) (jobB t G ps st se pa) := by
 obtain ⟨r1, r2, r3, r4, r5, r6, r7, r8⟩ := job_rooms ht hok hc hpl hpk hst hse hpa
 have hrm := (room_ok hc hok).1
 have hgl := (chk_ok hc).1
 have hpw := h.lt
 obtain ⟨W0, hW0⟩ : ∃ W0, w.alloc (.cells #[.string t, .slice go gn gc, .slice po pn pc, .int .i64 (st : Int), .int .i64 (se : Int), .int .i64 (pa : Int)] 27) = W0 := ⟨_, rfl⟩
 have hb0 : Below w.heap.size w W0 := by rw [← hW0]; exact one_new _ _
 have hJ0 : JobBoxC W0 w.heap.size #[.string t, .slice go gn gc, .slice po pn pc, .int .i64 (st : Int), .int .i64 (se : Int), .int .i64 (pa : Int)] := by rw [← hW0]; exact heap_alloc_new _ _
 obtain ⟨c0, c1, c2, c3, c4, c5⟩ := job_cells hJ0
 have hT0 : WTo W0 W0 (p + 1) p (.slice none 0 0) [] := by rw [← hW0]; exact WTo.refl (h.al _)
 have HG : Hid (VxAt W0 (fun k => k < p) go G) := hG.new hb0
 have HP : Hid (IsP W0 (fun k => k < p) po ps) := hP.new hb0
 have HO : Hid (∀ v ∈ G, v.ok) := hok
 have HPK : Hid (∀ x ∈ ps, I64 x) := hpk
 have HN : Hid _ := hn
 have HPn : Hid _ := hp
 have HR4 : Hid _ := r4
 have hbp : w.heap.size ≠ p := by omega
 have hv0 : (Value.slice none 0 0).ownBlock ≠ some w.heap.size := by simp [Value.ownBlock]
 have hpn : pn ≤ 4 := by rw [hp]; exact hpl
 have hp0 : p < W0.heap.size := by have := hb0.size; omega
 have HFin : Hid (∀ w' l', WTo W0 w' (p + 1) p (.slice none 0 0) l' → WTo w w' (p + 1) p (.slice none 0 0) l') := fun w' l' h' => by rw [← hW0] at h'; exact h'.fromAlloc
 clear hn hp h hG hP hok hpk hb0 hJ0 hpw r4 hc
 go_enter Tryz.func10, Tryz.ntmps10
 go_upto_region 2 with (go_at_call 24; refine (wtext_o t hT0 (by simp; omega)).mono ?_; rintro r w1 ⟨rfl, hT1⟩)
 rw [List.nil_append] at hT1
 have d1 := hT1.cell hbp hv0 c1
 go_upto_region 3 with (go_at_call 25; refine (wput_o G gn gc HN.out hT1 HG.out HO.out hgl (by omega)).mono ?_; rintro r w2 ⟨rfl, hT2⟩)
 have d2 := hT2.cell hbp hv0 c2
 have hl2 : (textB t.data.toList ++ grB G).length + 10 ≤ 140737488355328 := by rw [List.length_append]; omega
 go_upto_region 4 with (go_at_call 26; refine (wcount_w pn hT2 (by omega) hl2).mono ?_; rintro r w3 ⟨rfl, hT3⟩)
 have e2 := hT3.cell hbp hv0 c2
 have HT3 : Hid _ := hT3
 have HH : Hid ((textB t.data.toList ++ grB G ++ numB pn).length ≤ 50030) := by show _ ≤ _; rw [List.length_append, List.length_append, HPn.out]; omega
 clear hT0 hT1 hT2 hT3 d1 d2 hl2
 go_upto_block 0 with (fail)
 go_wp2
 go_loopw [5, 22] (fun _ i wr => ∃ j : Nat, j ≤ pn ∧ i = .int .i64 j ∧ WTo W0 wr (p + 1) p (.slice none 0 0) (textB t.data.toList ++ grB G ++ numB pn ++ (ps.take j).flatMap sgB)) (fun _ i _ => pn - (intOf i).toNat)
 case atStart => exact ⟨0, Nat.zero_le _, rfl, by rw [List.take_zero, List.flatMap_nil, List.append_nil]; exact HT3.out⟩
 case round =>
  obtain ⟨j, hj, rfl, hTj⟩ := hrel
  have hlj : (textB t.data.toList ++ grB G ++ numB pn ++ (ps.take j).flatMap sgB).length ≤ 50070 := by
   have := HR4.out j
   have := HH.out
   rw [List.length_append]; omega
  by_cases hlt : j < pn
  ·have hjl : j < ps.length := by rw [← HPn.out]; exact hlt
   obtain ⟨b, off, rfl, hB, hcs⟩ := HP.out (by omega)
   have x0 := hTj.cell (b := b) (by omega) (by simp [Value.ownBlock]) (hcs j hjl)
   have HZ : Hid (I64 ps[j]) := HPK.out _ (List.getElem_mem hjl)
   have HS : Hid _ := ps_snoc ps j hjl
   generalize ps[j] = z at x0 HZ HS
   clear hcs
   go_wp2_with (go_at_call 27; refine (wsigned_w z hTj HZ.out (by omega)).mono ?_; rintro r w4 ⟨rfl, hT4⟩)
   go_roundw
   case rel => exact ⟨j + 1, by omega, by go_num, by rw [HS.out]; simpa only [List.append_assoc] using hT4⟩
   case measure => simp [intOf]; omega
  ·obtain rfl : j = pn := by omega
   have HTj : Hid _ := hTj
   have f3 := hTj.cell hbp hv0 c3
   clear hTj HT3
   go_upto_region 10 with (go_at_call 26; refine (wcount_w st HTj.out (by omega) (by omega)).mono ?_; rintro r w5 ⟨rfl, hT5⟩)
   have f4 := hT5.cell hbp hv0 c4
   go_upto_region 11 with (go_at_call 26; refine (wcount_w se hT5 (by omega) (by rw [List.length_append]; omega)).mono ?_; rintro r w6 ⟨rfl, hT6⟩)
   have f5 := hT6.cell hbp hv0 c5
   go_wp2_with (go_at_call 26; refine (wcount_w pa hT6 (by omega) (by rw [List.length_append, List.length_append]; omega)).mono ?_; rintro r w7 ⟨rfl, hT7⟩)
   go_end0
   refine ⟨rfl, HFin.out _ _ ?_⟩
   have e : jobB t G ps st se pa = textB t.data.toList ++ grB G ++ numB j ++ (ps.take j).flatMap sgB ++ numB st ++ numB se ++ numB pa := by
    unfold jobB
    rw [HPn.out, List.take_length]
   rw [e]
   exact hT7
set_option maxHeartbeats 1000000 in
theorem encj_bad {w : World} {P : Nat → Prop} {go po : Option Addr} {gn gc pn pc : Nat} {t : ByteArray} {G : List Vx} {ps : List Int} {st se pa jn : Int} (hn : gn = G.length) (hp : pn = ps.length) (hG : VxAt w P go G) (hok : ∀ v ∈ G, v.ok) (hl : G.length ≤ 9223372036854775807) (hL : IsAt w po ps) (hpl : ps.length ≤ 9223372036854775807) (hj : jobN t G ps st se pa = jn) (hz : ¬ jn = 0) :
  Calls Tryz.prog 4 #[.agg #[.string t, .slice go gn gc, .slice po pn pc, .int .i64 st, .int .i64 se, .int .i64 pa]] w fun r w' => r = .returned (.tuple #[.string ByteArray.empty, .int .i64 jn]) ∧ Below w.heap.size w w' := by
 obtain ⟨W0, hW0⟩ : ∃ W0, w.alloc (.cells #[.string t, .slice go gn gc, .slice po pn pc, .int .i64 st, .int .i64 se, .int .i64 pa] 27) = W0 := ⟨_, rfl⟩
 have hb0 : Below w.heap.size w W0 := by rw [← hW0]; exact one_new _ _
 have HJ0 : Hid (JobBoxC W0 w.heap.size #[.string t, .slice go gn gc, .slice po pn pc, .int .i64 st, .int .i64 se, .int .i64 pa]) := by rw [← hW0]; exact heap_alloc_new _ _
 have hC := checkJ_any (s := t) (gc := gc) (pc := pc) (st := st) (se := se) (pa := pa) hn hp (hG.new hb0) hok hl (hL.new hb0) hpl
 rw [hj] at hC
 have HC : Hid _ := hC
 have hzb : (jn != 0) = true := by simpa using hz
 have HB : Hid _ := hb0
 clear hn hp hG hok hl hL hpl hj hC hb0
 go_enter Tryz.func4, Tryz.ntmps4
 go_wp2_with (first
  | (refine wpList_load_row rfl 27 _ rfl w.heap.size rfl 27 #[.string t, .slice go gn gc, .slice po pn pc, .int .i64 st, .int .i64 se, .int .i64 pa] (0, 0) _ HJ0.out Tryz.underlying27 rfl size_jobJ ?_)
  | (go_at_call 17; refine Calls.mono HC.out ?_; rintro r w1 ⟨rfl, hb1⟩; have HB1 : Hid _ := HB.out.trans (hb1.mono HB.out.size); clear hb1))
 go_ret2
 exact ⟨rfl, HB1.out⟩
set_option maxHeartbeats 1000000 in
theorem encj_good {w : World} {P : Nat → Prop} {go po : Option Addr} {gn gc pn pc : Nat} {t : ByteArray} {G : List Vx} {ps : List Int} {st se pa : Nat} (hn : gn = G.length) (hp : pn = ps.length) (hG : VxAt w P go G) (hok : ∀ v ∈ G, v.ok) (hL : IsAt w po ps) (hpk : ∀ x ∈ ps, I64 x) (hj : jobN t G ps st se pa = 0) :
  Calls Tryz.prog 4 #[.agg #[.string t, .slice go gn gc, .slice po pn pc, .int .i64 (st : Int), .int .i64 (se : Int), .int .i64 (pa : Int)]] w fun r w' => r = .returned (.tuple #[.string (str (jobB t G ps st se pa)), .int .i64 0]) ∧ Below w.heap.size w w' := by
 have hk := jobN_ok hj
 have hgl := (chk_ok hk.chk).1
 obtain ⟨W0, hW0⟩ : ∃ W0, w.alloc (.cells #[.string t, .slice go gn gc, .slice po pn pc, .int .i64 (st : Int), .int .i64 (se : Int), .int .i64 (pa : Int)] 27) = W0 := ⟨_, rfl⟩
 have hb0 : Below w.heap.size w W0 := by rw [← hW0]; exact one_new _ _
 have HJ0 : Hid (JobBoxC W0 w.heap.size #[.string t, .slice go gn gc, .slice po pn pc, .int .i64 (st : Int), .int .i64 (se : Int), .int .i64 (pa : Int)]) := by rw [← hW0]; exact heap_alloc_new _ _
 have hC := checkJ_any (s := t) (gc := gc) (pc := pc) (st := (st : Int)) (se := (se : Int)) (pa := (pa : Int)) hn hp (hG.new hb0) hok (by omega) (hL.new hb0) (by have := hk.len; omega)
 rw [hj] at hC
 have HC : Hid _ := hC
 have HB : Hid _ := hb0
 have HPut : Hid (∀ w1 p, Below w.heap.size w w1 → w.heap.size ≤ p → Wr w1 (p + 1) p (.slice none 0 0) [] → Calls Tryz.prog 10 #[.pointer (some ⟨p, 0, none⟩), .agg #[.string t, .slice go gn gc, .slice po pn pc, .int .i64 (st : Int), .int .i64 (se : Int), .int .i64 (pa : Int)]] w1 fun r w' => r = .returned (.tuple #[]) ∧ WTo w1 w' (p + 1) p (.slice none 0 0) (jobB t G ps st se pa)) := fun w1 p hb hle hw =>
  putj_any hn hp hw (((hG.mono (Q := fun k => k < w.heap.size) (fun _ h _ => h)).new hb).mono (fun k _ h => by omega)) ((hL.toP.new hb).mono (fun k _ h => by omega)) (known_size hk.known) hok hk.chk hk.len hpk (by have := hk.st; omega) (by have := hk.se; omega) (by have := hk.pa; omega)
 clear hn hp hG hok hL hj hC hb0 hk hpk
 go_enter Tryz.func4, Tryz.ntmps4
 go_wp2_with (first
  | (refine wpList_load_row rfl 27 _ rfl w.heap.size rfl 27 #[.string t, .slice go gn gc, .slice po pn pc, .int .i64 (st : Int), .int .i64 (se : Int), .int .i64 (pa : Int)] (0, 0) _ (by first | exact HJ2.out | exact HJ0.out) Tryz.underlying27 rfl size_jobJ ?_)
  | (go_at_call 17; refine Calls.mono HC.out ?_; rintro r w1 ⟨rfl, hb1⟩; have HB1 : Hid (Below w.heap.size w w1) := HB.out.trans (hb1.mono HB.out.size); have HJ1 : Hid (JobBoxC w1 w.heap.size #[.string t, .slice go gn gc, .slice po pn pc, .int .i64 (st : Int), .int .i64 (se : Int), .int .i64 (pa : Int)]) := (hb1.block _ (Array.getElem?_eq_some_iff.1 HJ0.out).1).trans HJ0.out; clear hb1)
  | (go_at_call 9; refine (newwriter_any _).mono ?_; rintro r w2 ⟨rfl, hw2, hb2⟩; have HB2 : Hid (Below w.heap.size w w2) := HB1.out.trans (hb2.mono HB1.out.size); have HJ2 : Hid (JobBoxC w2 w.heap.size #[.string t, .slice go gn gc, .slice po pn pc, .int .i64 (st : Int), .int .i64 (se : Int), .int .i64 (pa : Int)]) := (hb2.block _ (Array.getElem?_eq_some_iff.1 HJ1.out).1).trans HJ1.out; have HW2 : Hid _ := hw2; clear hw2 hb2)
  | (go_at_call 10; refine Calls.mono (HPut.out _ _ HB2.out HB1.out.size HW2.out) ?_; rintro r w3 ⟨rfl, hT3⟩; have HB3 : Hid (Below w.heap.size w w3) := WTo.new HB2.out HW2.out hT3 HB1.out.size (Nat.le_succ_of_le HB1.out.size); obtain ⟨v3, hw3, hf3, hr3⟩ := hT3; have HW3 : Hid _ := hw3; clear hw3 hf3 hr3)
  | (go_at_call 12; refine (wall_any HW3.out).mono ?_; rintro r w4 ⟨rfl, rfl⟩))
 go_ret2
 exact ⟨rfl, HB3.out⟩
theorem ju64n {n : Nat} (h : n ≤ 9223372036854775807) : IntKind.u64.wrap (n : Int) = n := by rw [IntKind.wrap_u64]; omega
theorem jnum_any (n : Nat) (w : World) (h : n ≤ 9223372036854775807) : Calls Tryz.prog 36 #[.int .u64 (n : Int)] w fun e w' => e = .returned (.string (str (numB n))) ∧ Below w.heap.size w w' := refnumber_any n w (by omega)
theorem jsg_any (k : Int) (w : World) (h : I64 k) : Calls Tryz.prog 37 #[.int .i64 k] w fun e w' => e = .returned (.string (str (sgB k))) ∧ Below w.heap.size w w' := refsigned_g k w h
def JobBoxR (W : World) (b : Nat) (c : Array Value) : Prop := W.heap[b]? = some (.cells c 34 (0, 0))
theorem jobr_cells {W : World} {b : Nat} {a0 a1 a2 a3 a4 a5 : Value} (h : JobBoxR W b #[a0, a1, a2, a3, a4, a5]) : W.cell? ⟨b, 0, none⟩ = some a0 ∧ W.cell? ⟨b, 1, none⟩ = some a1 ∧ W.cell? ⟨b, 2, none⟩ = some a2 ∧ W.cell? ⟨b, 3, none⟩ = some a3 ∧ W.cell? ⟨b, 4, none⟩ = some a4 ∧ W.cell? ⟨b, 5, none⟩ = some a5 := by
 unfold JobBoxR at h
 simp [World.cell?, h]
theorem size_jobR : (Tryz.prog.info? 34).map (·.size) = some 6 := by kernel_rfl
set_option maxHeartbeats 4000000 in
theorem jref_r1 {W0 : World} {A : Act} {bx bo gn gc pn pc : Nat} {go po : Option Addr} {t : ByteArray} {st se pa : Int} {G : List Vx} {K : Act → World → Prop} {Q' : Exit → Act → World → Prop} (hsz : A.tmps.size = 17) (hA1 : A.eval (.tmp 1) = .pointer (some ⟨bx, 0, none⟩)) (hA2 : A.eval (.tmp 2) = .pointer (some ⟨bo, 0, none⟩)) (hB : JobBoxC W0 bx #[.string t, .slice go gn gc, .slice po pn pc, .int .i64 st, .int .i64 se, .int .i64 pa]) (hOut : JobBoxR W0 bo #[.string ByteArray.empty, .slice none 0 0, .slice none 0 0, .int .i64 0, .int .i64 0, .int .i64 0]) (hRf : ∀ W, Below W0.heap.size W0 W → Calls Tryz.prog 21 #[.agg #[.slice go gn gc]] W fun r w' => ∃ ho hc, r = .returned (.slice ho G.length hc) ∧ VxAt w' (fun k => W.heap.size ≤ k) ho G ∧ Below W.heap.size W w')
  (HK : ∀ X W W1 ho hc, Below W0.heap.size W0 W → W1 = W.setRow bo #[.string t, .slice ho G.length hc, .slice po pn pc, .int .i64 st, .int .i64 se, .int .i64 pa] → VxAt W (fun k => W0.heap.size ≤ k) ho G → K (puts A X [3, 4, 5, 6, 7, 8, 9, 10, 11, 12, 13, 14, 15, 16]) W1) :
  Code.wp Tryz.prog ((Tryz.f6.body.bind (regionJ 1)).getD .skip) (Exit.then K Q') A W0 := by
 obtain ⟨ds, hds⟩ : ∃ ds, [3, 4, 5, 6, 7, 8, 9, 10, 11, 12, 13, 14, 15, 16] = ds := ⟨_, rfl⟩
 have hlt : ∀ d ∈ [3, 4, 5, 6, 7, 8, 9, 10, 11, 12, 13, 14, 15, 16], d < A.tmps.size := by rw [hsz]; decide
 have hin : ∀ {X : Nat → Value} {k : Nat}, k ∈ [3, 4, 5, 6, 7, 8, 9, 10, 11, 12, 13, 14, 15, 16] → (puts A X ds).eval (.tmp k) = X k := fun hk => by rw [← hds]; exact eval_in hk (hlt _ hk)
 have hout : ∀ {X : Nat → Value} {k : Nat}, k ∉ [3, 4, 5, 6, 7, 8, 9, 10, 11, 12, 13, 14, 15, 16] → (puts A X ds).eval (.tmp k) = A.eval (.tmp k) := fun hk => by rw [← hds]; exact eval_out hk
 have g0 : ds.getD 0 0 = 3 := by rw [← hds]; rfl
 have g1 : ds.getD 1 0 = 4 := by rw [← hds]; rfl
 have g2 : ds.getD 2 0 = 5 := by rw [← hds]; rfl
 have g3 : ds.getD 3 0 = 6 := by rw [← hds]; rfl
 have g4 : ds.getD 4 0 = 7 := by rw [← hds]; rfl
 have g5 : ds.getD 5 0 = 8 := by rw [← hds]; rfl
 have g6 : ds.getD 6 0 = 9 := by rw [← hds]; rfl
 have g7 : ds.getD 7 0 = 10 := by rw [← hds]; rfl
 have g8 : ds.getD 8 0 = 11 := by rw [← hds]; rfl
 have g9 : ds.getD 9 0 = 12 := by rw [← hds]; rfl
 have g10 : ds.getD 10 0 = 13 := by rw [← hds]; rfl
 have g11 : ds.getD 11 0 = 14 := by rw [← hds]; rfl
 have g12 : ds.getD 12 0 = 15 := by rw [← hds]; rfl
 have g13 : ds.getD 13 0 = 16 := by rw [← hds]; rfl
 obtain ⟨gb, hgbE⟩ : ∃ gb : Nat → Bool, (fun j => true) = gb := ⟨_, rfl⟩
 obtain ⟨V, hV, e0, e1, e2, e3, e4, e5, e6, e7, e8, e9, e10, e11, e12, e13⟩ : ∃ V : Nat → Value → World → Prop, (∀ i v W W', V i v W → Below W.heap.size W W' → V i v W') ∧ (∀ v W, V 0 v W = (v = .pointer (some ⟨bx, 0, none⟩))) ∧ (∀ v W, V 1 v W = (v = .string t)) ∧ (∀ v W, V 2 v W = (v = .pointer (some ⟨bx, 1, none⟩))) ∧ (∀ v W, V 3 v W = (v = .agg #[.slice go gn gc])) ∧ (∀ v W, V 4 v W = (∃ ho hc, v = .slice ho G.length hc ∧ VxAt W (fun k => W0.heap.size ≤ k) ho G)) ∧ (∀ v W, V 5 v W = (v = .pointer (some ⟨bx, 2, none⟩))) ∧ (∀ v W, V 6 v W = (v = .slice po pn pc)) ∧ (∀ v W, V 7 v W = (v = .pointer (some ⟨bx, 3, none⟩))) ∧ (∀ v W, V 8 v W = (v = .int .i64 st)) ∧ (∀ v W, V 9 v W = (v = .pointer (some ⟨bx, 4, none⟩))) ∧ (∀ v W, V 10 v W = (v = .int .i64 se)) ∧ (∀ v W, V 11 v W = (v = .pointer (some ⟨bx, 5, none⟩))) ∧ (∀ v W, V 12 v W = (v = .int .i64 pa)) ∧ (∀ v W, V 13 v W = (∃ ho hc, v = .agg #[.string t, .slice ho G.length hc, .slice po pn pc, .int .i64 st, .int .i64 se, .int .i64 pa] ∧ VxAt W (fun k => W0.heap.size ≤ k) ho G)) := by
  refine ⟨fun i v W => match i with
   | 0 => v = .pointer (some ⟨bx, 0, none⟩)
   | 1 => v = .string t
   | 2 => v = .pointer (some ⟨bx, 1, none⟩)
   | 3 => v = .agg #[.slice go gn gc]
   | 4 => ∃ ho hc, v = .slice ho G.length hc ∧ VxAt W (fun k => W0.heap.size ≤ k) ho G
   | 5 => v = .pointer (some ⟨bx, 2, none⟩)
   | 6 => v = .slice po pn pc
   | 7 => v = .pointer (some ⟨bx, 3, none⟩)
   | 8 => v = .int .i64 st
   | 9 => v = .pointer (some ⟨bx, 4, none⟩)
   | 10 => v = .int .i64 se
   | 11 => v = .pointer (some ⟨bx, 5, none⟩)
   | 12 => v = .int .i64 pa
   | 13 => ∃ ho hc, v = .agg #[.string t, .slice ho G.length hc, .slice po pn pc, .int .i64 st, .int .i64 se, .int .i64 pa] ∧ VxAt W (fun k => W0.heap.size ≤ k) ho G
   | _ => True, ?_, fun _ _ => rfl, fun _ _ => rfl, fun _ _ => rfl, fun _ _ => rfl, fun _ _ => rfl, fun _ _ => rfl, fun _ _ => rfl, fun _ _ => rfl, fun _ _ => rfl, fun _ _ => rfl, fun _ _ => rfl, fun _ _ => rfl, fun _ _ => rfl, fun _ _ => rfl⟩
  intro i v W W' h hb
  match i, h with
  | 0, h => exact h
  | 1, h => exact h
  | 2, h => exact h
  | 3, h => exact h
  | 4, h => exact (by obtain ⟨ho, hc, h1, h2⟩ := h; exact ⟨ho, hc, h1, h2.new hb⟩)
  | 5, h => exact h
  | 6, h => exact h
  | 7, h => exact h
  | 8, h => exact h
  | 9, h => exact h
  | 10, h => exact h
  | 11, h => exact h
  | 12, h => exact h
  | 13, h => exact (by obtain ⟨ho, hc, h1, h2⟩ := h; exact ⟨ho, hc, h1, h2.new hb⟩)
  | _ + 14, _ => trivial
 conv => arg 2; whnf
 refine wp_region_M 14 rfl ds V gb (by kernel_rfl) (by kernel_rfl) (by kernel_rfl) (by rw [← hds]; kernel_rfl) (by rw [← hds]; exact hlt) hV ?_ ?_ ?_
 ·intro i o j want ho hg v W hv
  have hj : j ∈ ([] : List Nat) := guards_at (by kernel_rfl) ho hg
  cases hj
 ·refine ⟨?_, ?_, ?_, ?_, ?_, ?_, ?_, ?_, ?_, ?_, ?_, ?_, ?_, ?_, trivial⟩
  ·refine ⟨fun _ X W hb hd hu => ?_, fun h => absurd (show true = false from h) (by decide)⟩
   have h0 := hout (X := X) (k := 1) (by decide)
   rw [hA1] at h0
   refine v_value (V := V 0) (v := .pointer (some ⟨bx, 0, none⟩)) ?_ (by rw [e0])
   generalize (puts A X ds).eval = ρ at h0 ⊢
   go_simp
  ·refine ⟨fun _ X W hb hd hu => ?_, fun h => absurd (show true = false from h) (by decide)⟩
   have d0 := hd 0 (by kernel_rfl)
   rw [e0, g0] at d0
   have h0 := (hin (X := X) (k := 3) (by decide)).trans d0
   have c0 := (job_cells ((hb.block _ (Array.getElem?_eq_some_iff.1 hB).1).trans hB)).1
   refine v_value (V := V 1) (v := .string t) ?_ (by rw [e1])
   generalize (puts A X ds).eval = ρ at h0 ⊢
   go_simp
  ·refine ⟨fun _ X W hb hd hu => ?_, fun h => absurd (show true = false from h) (by decide)⟩
   have h0 := hout (X := X) (k := 1) (by decide)
   rw [hA1] at h0
   refine v_value (V := V 2) (v := .pointer (some ⟨bx, 1, none⟩)) ?_ (by rw [e2])
   generalize (puts A X ds).eval = ρ at h0 ⊢
   go_simp
  ·refine ⟨fun _ X W hb hd hu => ?_, fun h => absurd (show true = false from h) (by decide)⟩
   have d0 := hd 2 (by kernel_rfl)
   rw [e2, g2] at d0
   have h0 := (hin (X := X) (k := 5) (by decide)).trans d0
   have c0 := (job_cells ((hb.block _ (Array.getElem?_eq_some_iff.1 hB).1).trans hB)).2.1
   refine v_value (V := V 3) (v := .agg #[.slice go gn gc]) ?_ (by rw [e3])
   generalize (puts A X ds).eval = ρ at h0 ⊢
   go_simp
  ·refine ⟨fun _ X W hb hd hu => ?_, fun h => absurd (show true = false from h) (by decide)⟩
   have d0 := hd 3 (by kernel_rfl)
   rw [e3, g3] at d0
   have h0 := (hin (X := X) (k := 6) (by decide)).trans d0
   have hf : (puts A X ds).eval (.func 21) = .func (.func 21) #[] #[] := rfl
   refine v_call (V := V 4) (f := 21) (vs := #[.agg #[.slice go gn gc]]) ?_ ?_
   ·generalize (puts A X ds).eval = ρ at h0 hf ⊢
    go_simp
   ·refine (hRf W hb).mono ?_
    rintro r W' ⟨ho, hc, rfl, hV', hb'⟩
    exact ⟨_, rfl, by rw [e4]; exact ⟨ho, hc, rfl, hV'.mono (fun k _ hk => Nat.le_trans hb.size hk)⟩, hb'⟩
  ·refine ⟨fun _ X W hb hd hu => ?_, fun h => absurd (show true = false from h) (by decide)⟩
   have h0 := hout (X := X) (k := 1) (by decide)
   rw [hA1] at h0
   refine v_value (V := V 5) (v := .pointer (some ⟨bx, 2, none⟩)) ?_ (by rw [e5])
   generalize (puts A X ds).eval = ρ at h0 ⊢
   go_simp
  ·refine ⟨fun _ X W hb hd hu => ?_, fun h => absurd (show true = false from h) (by decide)⟩
   have d0 := hd 5 (by kernel_rfl)
   rw [e5, g5] at d0
   have h0 := (hin (X := X) (k := 8) (by decide)).trans d0
   have c0 := (job_cells ((hb.block _ (Array.getElem?_eq_some_iff.1 hB).1).trans hB)).2.2.1
   refine v_value (V := V 6) (v := .slice po pn pc) ?_ (by rw [e6])
   generalize (puts A X ds).eval = ρ at h0 ⊢
   go_simp
  ·refine ⟨fun _ X W hb hd hu => ?_, fun h => absurd (show true = false from h) (by decide)⟩
   have h0 := hout (X := X) (k := 1) (by decide)
   rw [hA1] at h0
   refine v_value (V := V 7) (v := .pointer (some ⟨bx, 3, none⟩)) ?_ (by rw [e7])
   generalize (puts A X ds).eval = ρ at h0 ⊢
   go_simp
  ·refine ⟨fun _ X W hb hd hu => ?_, fun h => absurd (show true = false from h) (by decide)⟩
   have d0 := hd 7 (by kernel_rfl)
   rw [e7, g7] at d0
   have h0 := (hin (X := X) (k := 10) (by decide)).trans d0
   have c0 := (job_cells ((hb.block _ (Array.getElem?_eq_some_iff.1 hB).1).trans hB)).2.2.2.1
   refine v_value (V := V 8) (v := .int .i64 st) ?_ (by rw [e8])
   generalize (puts A X ds).eval = ρ at h0 ⊢
   go_simp
  ·refine ⟨fun _ X W hb hd hu => ?_, fun h => absurd (show true = false from h) (by decide)⟩
   have h0 := hout (X := X) (k := 1) (by decide)
   rw [hA1] at h0
   refine v_value (V := V 9) (v := .pointer (some ⟨bx, 4, none⟩)) ?_ (by rw [e9])
   generalize (puts A X ds).eval = ρ at h0 ⊢
   go_simp
  ·refine ⟨fun _ X W hb hd hu => ?_, fun h => absurd (show true = false from h) (by decide)⟩
   have d0 := hd 9 (by kernel_rfl)
   rw [e9, g9] at d0
   have h0 := (hin (X := X) (k := 12) (by decide)).trans d0
   have c0 := (job_cells ((hb.block _ (Array.getElem?_eq_some_iff.1 hB).1).trans hB)).2.2.2.2.1
   refine v_value (V := V 10) (v := .int .i64 se) ?_ (by rw [e10])
   generalize (puts A X ds).eval = ρ at h0 ⊢
   go_simp
  ·refine ⟨fun _ X W hb hd hu => ?_, fun h => absurd (show true = false from h) (by decide)⟩
   have h0 := hout (X := X) (k := 1) (by decide)
   rw [hA1] at h0
   refine v_value (V := V 11) (v := .pointer (some ⟨bx, 5, none⟩)) ?_ (by rw [e11])
   generalize (puts A X ds).eval = ρ at h0 ⊢
   go_simp
  ·refine ⟨fun _ X W hb hd hu => ?_, fun h => absurd (show true = false from h) (by decide)⟩
   have d0 := hd 11 (by kernel_rfl)
   rw [e11, g11] at d0
   have h0 := (hin (X := X) (k := 14) (by decide)).trans d0
   have c0 := (job_cells ((hb.block _ (Array.getElem?_eq_some_iff.1 hB).1).trans hB)).2.2.2.2.2
   refine v_value (V := V 12) (v := .int .i64 pa) ?_ (by rw [e12])
   generalize (puts A X ds).eval = ρ at h0 ⊢
   go_simp
  ·refine ⟨fun _ X W hb hd hu => ?_, fun h => absurd (show true = false from h) (by decide)⟩
   have d0 := hd 1 (by kernel_rfl)
   rw [e1, g1] at d0
   have h0 := (hin (X := X) (k := 4) (by decide)).trans d0
   have d1 := hd 4 (by kernel_rfl)
   rw [e4, g4] at d1
   obtain ⟨ho, hc, d1, hV'⟩ := d1
   have h1 := (hin (X := X) (k := 7) (by decide)).trans d1
   have d2 := hd 6 (by kernel_rfl)
   rw [e6, g6] at d2
   have h2 := (hin (X := X) (k := 9) (by decide)).trans d2
   have d3 := hd 8 (by kernel_rfl)
   rw [e8, g8] at d3
   have h3 := (hin (X := X) (k := 11) (by decide)).trans d3
   have d4 := hd 10 (by kernel_rfl)
   rw [e10, g10] at d4
   have h4 := (hin (X := X) (k := 13) (by decide)).trans d4
   have d5 := hd 12 (by kernel_rfl)
   rw [e12, g12] at d5
   have h5 := (hin (X := X) (k := 15) (by decide)).trans d5
   refine v_value (V := V 13) (v := .agg #[.string t, .slice ho G.length hc, .slice po pn pc, .int .i64 st, .int .i64 se, .int .i64 pa]) ?_ (by rw [e13]; exact ⟨ho, hc, rfl, hV'⟩)
   generalize (puts A X ds).eval = ρ at h0 h1 h2 h3 h4 h5 ⊢
   go_simp
 ·intro X W hb hall
  have r13 := hall 13 (by decide)
  rw [e13, g13] at r13
  obtain ⟨ho, hc, r13, hV'⟩ := r13
  have h8 := (hin (X := X) (k := 16) (by decide)).trans r13
  have h2 := hout (X := X) (k := 2) (by decide)
  rw [hA2] at h2
  refine wp_store_row 34 _ _ rfl bo #[.string t, .slice ho G.length hc, .slice po pn pc, .int .i64 st, .int .i64 se, .int .i64 pa] h2 h8 34 _ ((hb.block _ (Array.getElem?_eq_some_iff.1 hOut).1).trans hOut) size_jobR rfl (by simp [Value.oneCell']) ?_
  have := HK X W _ ho hc hb rfl hV'
  rw [hds] at this
  exact this
set_option maxHeartbeats 1000000 in
theorem jb_r1 {W0 : World} {A : Act} {bx gn gc pn pc st se pa : Nat} {go po : Option Addr} {t z0 z1 z2 : ByteArray} {K : Act → World → Prop} {Q' : Exit → Act → World → Prop} (hsz : A.tmps.size = 49) (hA1 : A.eval (.tmp 1) = .pointer (some ⟨bx, 0, none⟩)) (hB : JobBoxR W0 bx #[.string t, .slice go gn gc, .slice po pn pc, .int .i64 (st : Int), .int .i64 (se : Int), .int .i64 (pa : Int)]) (hTx : ∀ W, Calls Tryz.prog 34 #[.string t] W fun r w' => r = .returned (.string z0) ∧ Below W.heap.size W w') (hGb : ∀ W, Below W0.heap.size W0 W → Calls Tryz.prog 35 #[.slice go gn gc] W fun r w' => r = .returned (.string z1) ∧ Below W.heap.size W w') (hpn : pn ≤ 9223372036854775807) (hzpn : str (numB pn) = z2) (hl1 : ¬ 9223372036854775807 < z0.size + z1.size) (hl2 : ¬ 9223372036854775807 < z0.size + z1.size + z2.size)
  (HK : ∀ X W, Below W0.heap.size W0 W → X 3 = .string (z0 ++ z1 ++ z2) → K (puts A X [5, 6, 7, 8, 9, 10, 11, 12, 13, 14, 15, 16, 17, 3]) W) :
  Code.wp Tryz.prog ((Tryz.f14.body.bind (regionJ 1)).getD .skip) (Exit.then K Q') A W0 := by
 obtain ⟨ds, hds⟩ : ∃ ds, [5, 6, 7, 8, 9, 10, 11, 12, 13, 14, 15, 16, 17, 3] = ds := ⟨_, rfl⟩
 have hin : ∀ {X : Nat → Value} {k : Nat}, k ∈ [5, 6, 7, 8, 9, 10, 11, 12, 13, 14, 15, 16, 17, 3] → (puts A X ds).eval (.tmp k) = X k := fun hk => by rw [← hds]; exact eval_in hk (by rw [hsz]; revert hk; simp only [List.mem_cons, List.not_mem_nil, or_false]; omega)
 have hout : ∀ {X : Nat → Value} {k : Nat}, k ∉ [5, 6, 7, 8, 9, 10, 11, 12, 13, 14, 15, 16, 17, 3] → (puts A X ds).eval (.tmp k) = A.eval (.tmp k) := fun hk => by rw [← hds]; exact eval_out hk
 have g0 : ds.getD 0 0 = 5 := by rw [← hds]; rfl
 have g1 : ds.getD 1 0 = 6 := by rw [← hds]; rfl
 have g2 : ds.getD 2 0 = 7 := by rw [← hds]; rfl
 have g3 : ds.getD 3 0 = 8 := by rw [← hds]; rfl
 have g4 : ds.getD 4 0 = 9 := by rw [← hds]; rfl
 have g5 : ds.getD 5 0 = 10 := by rw [← hds]; rfl
 have g6 : ds.getD 6 0 = 11 := by rw [← hds]; rfl
 have g7 : ds.getD 7 0 = 12 := by rw [← hds]; rfl
 have g8 : ds.getD 8 0 = 13 := by rw [← hds]; rfl
 have g9 : ds.getD 9 0 = 14 := by rw [← hds]; rfl
 have g10 : ds.getD 10 0 = 15 := by rw [← hds]; rfl
 have g11 : ds.getD 11 0 = 16 := by rw [← hds]; rfl
 have g12 : ds.getD 12 0 = 17 := by rw [← hds]; rfl
 have g13 : ds.getD 13 0 = 3 := by rw [← hds]; rfl
 obtain ⟨V, hV, e0, e1, e2, e3, e4, e5, e6, e7, e8, e9, e10, e11, e12, e13⟩ : ∃ V : Nat → Value → World → Prop, (∀ i v W W', V i v W → Below W.heap.size W W' → V i v W') ∧ (∀ v W, V 0 v W = (v = .pointer (some ⟨bx, 0, none⟩))) ∧ (∀ v W, V 1 v W = (v = .string t)) ∧ (∀ v W, V 2 v W = (v = .string z0)) ∧ (∀ v W, V 3 v W = (v = .pointer (some ⟨bx, 1, none⟩))) ∧ (∀ v W, V 4 v W = (v = .slice go gn gc)) ∧ (∀ v W, V 5 v W = (v = .string z1)) ∧ (∀ v W, V 6 v W = (v = .string (z0 ++ z1))) ∧ (∀ v W, V 7 v W = (v = .pointer (some ⟨bx, 2, none⟩))) ∧ (∀ v W, V 8 v W = (v = .slice po pn pc)) ∧ (∀ v W, V 9 v W = (v = .int .i64 (pn : Int))) ∧ (∀ v W, V 10 v W = (v = .int .u64 (pn : Int))) ∧ (∀ v W, V 11 v W = (v = .string z2)) ∧ (∀ v W, V 12 v W = (v = .string (z0 ++ z1 ++ z2))) ∧ (∀ v W, V 13 v W = (v = .string (z0 ++ z1 ++ z2))) := by
  refine ⟨fun i v W => match i with
   | 0 => v = .pointer (some ⟨bx, 0, none⟩)
   | 1 => v = .string t
   | 2 => v = .string z0
   | 3 => v = .pointer (some ⟨bx, 1, none⟩)
   | 4 => v = .slice go gn gc
   | 5 => v = .string z1
   | 6 => v = .string (z0 ++ z1)
   | 7 => v = .pointer (some ⟨bx, 2, none⟩)
   | 8 => v = .slice po pn pc
   | 9 => v = .int .i64 (pn : Int)
   | 10 => v = .int .u64 (pn : Int)
   | 11 => v = .string z2
   | 12 => v = .string (z0 ++ z1 ++ z2)
   | 13 => v = .string (z0 ++ z1 ++ z2)
   | _ => True, ?_, fun _ _ => rfl, fun _ _ => rfl, fun _ _ => rfl, fun _ _ => rfl, fun _ _ => rfl, fun _ _ => rfl, fun _ _ => rfl, fun _ _ => rfl, fun _ _ => rfl, fun _ _ => rfl, fun _ _ => rfl, fun _ _ => rfl, fun _ _ => rfl, fun _ _ => rfl⟩
  intro i v W W' h hb
  match i, h with
  | 0, h => exact h
  | 1, h => exact h
  | 2, h => exact h
  | 3, h => exact h
  | 4, h => exact h
  | 5, h => exact h
  | 6, h => exact h
  | 7, h => exact h
  | 8, h => exact h
  | 9, h => exact h
  | 10, h => exact h
  | 11, h => exact h
  | 12, h => exact h
  | 13, h => exact h
  | _ + 14, _ => trivial
 conv => arg 2; whnf
 refine wp_region_U ds V (by kernel_rfl) (by kernel_rfl) (by rw [← hds]; kernel_rfl) hV ?_ ?_
 ·refine ⟨?_, ?_, ?_, ?_, ?_, ?_, ?_, ?_, ?_, ?_, ?_, ?_, ?_, ?_, trivial⟩
  all_goals intro X W hb hd hu
  ·have h0 := hout (X := X) (k := 1) (by decide)
   rw [hA1] at h0
   refine v_value (V := V 0) (v := .pointer (some ⟨bx, 0, none⟩)) ?_ (by rw [e0])
   generalize (puts A X ds).eval = ρ at h0 ⊢
   go_simp
  ·have d0 := hd 0 (by kernel_rfl)
   rw [e0, g0] at d0
   have h0 := (hin (X := X) (k := 5) (by decide)).trans d0
   have c0 := (jobr_cells ((hb.block _ (Array.getElem?_eq_some_iff.1 hB).1).trans hB)).1
   refine v_value (V := V 1) (v := .string t) ?_ (by rw [e1])
   generalize (puts A X ds).eval = ρ at h0 ⊢
   go_simp
  ·have d0 := hd 1 (by kernel_rfl)
   rw [e1, g1] at d0
   have h0 := (hin (X := X) (k := 6) (by decide)).trans d0
   have hf : (puts A X ds).eval (.func 34) = .func (.func 34) #[] #[] := rfl
   refine v_call (V := V 2) (f := 34) (vs := #[.string t]) ?_ ?_
   ·generalize (puts A X ds).eval = ρ at h0 hf ⊢
    go_simp
   ·refine (hTx W).mono ?_
    rintro r W' ⟨rfl, hb'⟩
    exact ⟨_, rfl, by rw [e2], hb'⟩
  ·have h0 := hout (X := X) (k := 1) (by decide)
   rw [hA1] at h0
   refine v_value (V := V 3) (v := .pointer (some ⟨bx, 1, none⟩)) ?_ (by rw [e3])
   generalize (puts A X ds).eval = ρ at h0 ⊢
   go_simp
  ·have d0 := hd 3 (by kernel_rfl)
   rw [e3, g3] at d0
   have h0 := (hin (X := X) (k := 8) (by decide)).trans d0
   have c0 := (jobr_cells ((hb.block _ (Array.getElem?_eq_some_iff.1 hB).1).trans hB)).2.1
   refine v_value (V := V 4) (v := .slice go gn gc) ?_ (by rw [e4])
   generalize (puts A X ds).eval = ρ at h0 ⊢
   go_simp
  ·have d0 := hd 4 (by kernel_rfl)
   rw [e4, g4] at d0
   have h0 := (hin (X := X) (k := 9) (by decide)).trans d0
   have hf : (puts A X ds).eval (.func 35) = .func (.func 35) #[] #[] := rfl
   refine v_call (V := V 5) (f := 35) (vs := #[.slice go gn gc]) ?_ ?_
   ·generalize (puts A X ds).eval = ρ at h0 hf ⊢
    go_simp
   ·refine (hGb W hb).mono ?_
    rintro r W' ⟨rfl, hb'⟩
    exact ⟨_, rfl, by rw [e5], hb'⟩
  ·have d0 := hd 2 (by kernel_rfl)
   rw [e2, g2] at d0
   have h0 := (hin (X := X) (k := 7) (by decide)).trans d0
   have d1 := hd 5 (by kernel_rfl)
   rw [e5, g5] at d1
   have h1 := (hin (X := X) (k := 10) (by decide)).trans d1
   have hs1 := hl1
   refine v_value (V := V 6) (v := .string (z0 ++ z1)) ?_ (by rw [e6])
   generalize (puts A X ds).eval = ρ at h0 h1 ⊢
   go_simp
  ·have h0 := hout (X := X) (k := 1) (by decide)
   rw [hA1] at h0
   refine v_value (V := V 7) (v := .pointer (some ⟨bx, 2, none⟩)) ?_ (by rw [e7])
   generalize (puts A X ds).eval = ρ at h0 ⊢
   go_simp
  ·have d0 := hd 7 (by kernel_rfl)
   rw [e7, g7] at d0
   have h0 := (hin (X := X) (k := 12) (by decide)).trans d0
   have c0 := (jobr_cells ((hb.block _ (Array.getElem?_eq_some_iff.1 hB).1).trans hB)).2.2.1
   refine v_value (V := V 8) (v := .slice po pn pc) ?_ (by rw [e8])
   generalize (puts A X ds).eval = ρ at h0 ⊢
   go_simp
  ·have d0 := hd 8 (by kernel_rfl)
   rw [e8, g8] at d0
   have h0 := (hin (X := X) (k := 13) (by decide)).trans d0
   refine v_value (V := V 9) (v := .int .i64 (pn : Int)) ?_ (by rw [e9])
   generalize (puts A X ds).eval = ρ at h0 ⊢
   go_simp
  ·have d0 := hd 9 (by kernel_rfl)
   rw [e9, g9] at d0
   have h0 := (hin (X := X) (k := 14) (by decide)).trans d0
   have hcv := ju64n hpn
   refine v_value (V := V 10) (v := .int .u64 (pn : Int)) ?_ (by rw [e10])
   generalize (puts A X ds).eval = ρ at h0 ⊢
   go_simp
  ·have d0 := hd 10 (by kernel_rfl)
   rw [e10, g10] at d0
   have h0 := (hin (X := X) (k := 15) (by decide)).trans d0
   have hf : (puts A X ds).eval (.func 36) = .func (.func 36) #[] #[] := rfl
   refine v_call (V := V 11) (f := 36) (vs := #[.int .u64 (pn : Int)]) ?_ ?_
   ·generalize (puts A X ds).eval = ρ at h0 hf ⊢
    go_simp
   ·refine (jnum_any pn W hpn).mono ?_
    rintro r W' ⟨rfl, hb'⟩
    exact ⟨_, rfl, by rw [e11, hzpn], hb'⟩
  ·have d0 := hd 6 (by kernel_rfl)
   rw [e6, g6] at d0
   have h0 := (hin (X := X) (k := 11) (by decide)).trans d0
   have d1 := hd 11 (by kernel_rfl)
   rw [e11, g11] at d1
   have h1 := (hin (X := X) (k := 16) (by decide)).trans d1
   have hs1 := hl2
   refine v_value (V := V 12) (v := .string (z0 ++ z1 ++ z2)) ?_ (by rw [e12])
   generalize (puts A X ds).eval = ρ at h0 h1 ⊢
   go_simp
  ·have d0 := hd 12 (by kernel_rfl)
   rw [e12, g12] at d0
   have h0 := (hin (X := X) (k := 17) (by decide)).trans d0
   refine v_value (V := V 13) (v := .string (z0 ++ z1 ++ z2)) ?_ (by rw [e13])
   generalize (puts A X ds).eval = ρ at h0 ⊢
   go_simp
 ·intro X W hb hall
  have r0 := hall 0 (by decide)
  rw [e0, g0] at r0
  have r1 := hall 1 (by decide)
  rw [e1, g1] at r1
  have r2 := hall 2 (by decide)
  rw [e2, g2] at r2
  have r3 := hall 3 (by decide)
  rw [e3, g3] at r3
  have r4 := hall 4 (by decide)
  rw [e4, g4] at r4
  have r5 := hall 5 (by decide)
  rw [e5, g5] at r5
  have r6 := hall 6 (by decide)
  rw [e6, g6] at r6
  have r7 := hall 7 (by decide)
  rw [e7, g7] at r7
  have r8 := hall 8 (by decide)
  rw [e8, g8] at r8
  have r9 := hall 9 (by decide)
  rw [e9, g9] at r9
  have r10 := hall 10 (by decide)
  rw [e10, g10] at r10
  have r11 := hall 11 (by decide)
  rw [e11, g11] at r11
  have r12 := hall 12 (by decide)
  rw [e12, g12] at r12
  have r13 := hall 13 (by decide)
  rw [e13, g13] at r13
  have := HK X W hb (by first | assumption | exact ⟨by assumption, by assumption⟩ | exact ⟨by assumption, by assumption, by assumption⟩ | simp_all)
  rw [hds] at this
  exact this
set_option maxHeartbeats 1000000 in
theorem jb_r6 {W0 : World} {A : Act} {bx gn gc pn pc st se pa : Nat} {go po : Option Addr} {t z0 z1 z2 s0 : ByteArray} {K : Act → World → Prop} {Q' : Exit → Act → World → Prop} (hsz : A.tmps.size = 49) (hA1 : A.eval (.tmp 1) = .pointer (some ⟨bx, 0, none⟩)) (hB : JobBoxR W0 bx #[.string t, .slice go gn gc, .slice po pn pc, .int .i64 (st : Int), .int .i64 (se : Int), .int .i64 (pa : Int)]) (hA3 : A.eval (.tmp 3) = .string s0) (hst : st ≤ 9223372036854775807) (hzst : str (numB st) = z0) (hse : se ≤ 9223372036854775807) (hzse : str (numB se) = z1) (hpa : pa ≤ 9223372036854775807) (hzpa : str (numB pa) = z2) (hl1 : ¬ 9223372036854775807 < s0.size + z0.size) (hl2 : ¬ 9223372036854775807 < s0.size + z0.size + z1.size) (hl3 : ¬ 9223372036854775807 < s0.size + z0.size + z1.size + z2.size)
  (HK : ∀ X W, Below W0.heap.size W0 W → X 2 = .string (s0 ++ z0 ++ z1 ++ z2) → K (puts A X [33, 34, 35, 36, 37, 38, 39, 40, 41, 42, 43, 44, 45, 46, 47, 48, 2]) W) :
  Code.wp Tryz.prog ((Tryz.f14.body.bind (regionJ 6)).getD .skip) (Exit.then K Q') A W0 := by
 obtain ⟨ds, hds⟩ : ∃ ds, [33, 34, 35, 36, 37, 38, 39, 40, 41, 42, 43, 44, 45, 46, 47, 48, 2] = ds := ⟨_, rfl⟩
 have hin : ∀ {X : Nat → Value} {k : Nat}, k ∈ [33, 34, 35, 36, 37, 38, 39, 40, 41, 42, 43, 44, 45, 46, 47, 48, 2] → (puts A X ds).eval (.tmp k) = X k := fun hk => by rw [← hds]; exact eval_in hk (by rw [hsz]; revert hk; simp only [List.mem_cons, List.not_mem_nil, or_false]; omega)
 have hout : ∀ {X : Nat → Value} {k : Nat}, k ∉ [33, 34, 35, 36, 37, 38, 39, 40, 41, 42, 43, 44, 45, 46, 47, 48, 2] → (puts A X ds).eval (.tmp k) = A.eval (.tmp k) := fun hk => by rw [← hds]; exact eval_out hk
 have g0 : ds.getD 0 0 = 33 := by rw [← hds]; rfl
 have g1 : ds.getD 1 0 = 34 := by rw [← hds]; rfl
 have g2 : ds.getD 2 0 = 35 := by rw [← hds]; rfl
 have g3 : ds.getD 3 0 = 36 := by rw [← hds]; rfl
 have g4 : ds.getD 4 0 = 37 := by rw [← hds]; rfl
 have g5 : ds.getD 5 0 = 38 := by rw [← hds]; rfl
 have g6 : ds.getD 6 0 = 39 := by rw [← hds]; rfl
 have g7 : ds.getD 7 0 = 40 := by rw [← hds]; rfl
 have g8 : ds.getD 8 0 = 41 := by rw [← hds]; rfl
 have g9 : ds.getD 9 0 = 42 := by rw [← hds]; rfl
 have g10 : ds.getD 10 0 = 43 := by rw [← hds]; rfl
 have g11 : ds.getD 11 0 = 44 := by rw [← hds]; rfl
 have g12 : ds.getD 12 0 = 45 := by rw [← hds]; rfl
 have g13 : ds.getD 13 0 = 46 := by rw [← hds]; rfl
 have g14 : ds.getD 14 0 = 47 := by rw [← hds]; rfl
 have g15 : ds.getD 15 0 = 48 := by rw [← hds]; rfl
 have g16 : ds.getD 16 0 = 2 := by rw [← hds]; rfl
 obtain ⟨V, hV, e0, e1, e2, e3, e4, e5, e6, e7, e8, e9, e10, e11, e12, e13, e14, e15, e16⟩ : ∃ V : Nat → Value → World → Prop, (∀ i v W W', V i v W → Below W.heap.size W W' → V i v W') ∧ (∀ v W, V 0 v W = (v = .string s0)) ∧ (∀ v W, V 1 v W = (v = .pointer (some ⟨bx, 3, none⟩))) ∧ (∀ v W, V 2 v W = (v = .int .i64 (st : Int))) ∧ (∀ v W, V 3 v W = (v = .int .u64 (st : Int))) ∧ (∀ v W, V 4 v W = (v = .string z0)) ∧ (∀ v W, V 5 v W = (v = .string (s0 ++ z0))) ∧ (∀ v W, V 6 v W = (v = .pointer (some ⟨bx, 4, none⟩))) ∧ (∀ v W, V 7 v W = (v = .int .i64 (se : Int))) ∧ (∀ v W, V 8 v W = (v = .int .u64 (se : Int))) ∧ (∀ v W, V 9 v W = (v = .string z1)) ∧ (∀ v W, V 10 v W = (v = .string (s0 ++ z0 ++ z1))) ∧ (∀ v W, V 11 v W = (v = .pointer (some ⟨bx, 5, none⟩))) ∧ (∀ v W, V 12 v W = (v = .int .i64 (pa : Int))) ∧ (∀ v W, V 13 v W = (v = .int .u64 (pa : Int))) ∧ (∀ v W, V 14 v W = (v = .string z2)) ∧ (∀ v W, V 15 v W = (v = .string (s0 ++ z0 ++ z1 ++ z2))) ∧ (∀ v W, V 16 v W = (v = .string (s0 ++ z0 ++ z1 ++ z2))) := by
  refine ⟨fun i v W => match i with
   | 0 => v = .string s0
   | 1 => v = .pointer (some ⟨bx, 3, none⟩)
   | 2 => v = .int .i64 (st : Int)
   | 3 => v = .int .u64 (st : Int)
   | 4 => v = .string z0
   | 5 => v = .string (s0 ++ z0)
   | 6 => v = .pointer (some ⟨bx, 4, none⟩)
   | 7 => v = .int .i64 (se : Int)
   | 8 => v = .int .u64 (se : Int)
   | 9 => v = .string z1
   | 10 => v = .string (s0 ++ z0 ++ z1)
   | 11 => v = .pointer (some ⟨bx, 5, none⟩)
   | 12 => v = .int .i64 (pa : Int)
   | 13 => v = .int .u64 (pa : Int)
   | 14 => v = .string z2
   | 15 => v = .string (s0 ++ z0 ++ z1 ++ z2)
   | 16 => v = .string (s0 ++ z0 ++ z1 ++ z2)
   | _ => True, ?_, fun _ _ => rfl, fun _ _ => rfl, fun _ _ => rfl, fun _ _ => rfl, fun _ _ => rfl, fun _ _ => rfl, fun _ _ => rfl, fun _ _ => rfl, fun _ _ => rfl, fun _ _ => rfl, fun _ _ => rfl, fun _ _ => rfl, fun _ _ => rfl, fun _ _ => rfl, fun _ _ => rfl, fun _ _ => rfl, fun _ _ => rfl⟩
  intro i v W W' h hb
  match i, h with
  | 0, h => exact h
  | 1, h => exact h
  | 2, h => exact h
  | 3, h => exact h
  | 4, h => exact h
  | 5, h => exact h
  | 6, h => exact h
  | 7, h => exact h
  | 8, h => exact h
  | 9, h => exact h
  | 10, h => exact h
  | 11, h => exact h
  | 12, h => exact h
  | 13, h => exact h
  | 14, h => exact h
  | 15, h => exact h
  | 16, h => exact h
  | _ + 17, _ => trivial
 conv => arg 2; whnf
 refine wp_region_U ds V (by kernel_rfl) (by kernel_rfl) (by rw [← hds]; kernel_rfl) hV ?_ ?_
 ·refine ⟨?_, ?_, ?_, ?_, ?_, ?_, ?_, ?_, ?_, ?_, ?_, ?_, ?_, ?_, ?_, ?_, ?_, trivial⟩
  all_goals intro X W hb hd hu
  ·have h0 := hout (X := X) (k := 3) (by decide)
   rw [hA3] at h0
   refine v_value (V := V 0) (v := .string s0) ?_ (by rw [e0])
   generalize (puts A X ds).eval = ρ at h0 ⊢
   go_simp
  ·have h0 := hout (X := X) (k := 1) (by decide)
   rw [hA1] at h0
   refine v_value (V := V 1) (v := .pointer (some ⟨bx, 3, none⟩)) ?_ (by rw [e1])
   generalize (puts A X ds).eval = ρ at h0 ⊢
   go_simp
  ·have d0 := hd 1 (by kernel_rfl)
   rw [e1, g1] at d0
   have h0 := (hin (X := X) (k := 34) (by decide)).trans d0
   have c0 := (jobr_cells ((hb.block _ (Array.getElem?_eq_some_iff.1 hB).1).trans hB)).2.2.2.1
   refine v_value (V := V 2) (v := .int .i64 (st : Int)) ?_ (by rw [e2])
   generalize (puts A X ds).eval = ρ at h0 ⊢
   go_simp
  ·have d0 := hd 2 (by kernel_rfl)
   rw [e2, g2] at d0
   have h0 := (hin (X := X) (k := 35) (by decide)).trans d0
   have hcv := ju64n hst
   refine v_value (V := V 3) (v := .int .u64 (st : Int)) ?_ (by rw [e3])
   generalize (puts A X ds).eval = ρ at h0 ⊢
   go_simp
  ·have d0 := hd 3 (by kernel_rfl)
   rw [e3, g3] at d0
   have h0 := (hin (X := X) (k := 36) (by decide)).trans d0
   have hf : (puts A X ds).eval (.func 36) = .func (.func 36) #[] #[] := rfl
   refine v_call (V := V 4) (f := 36) (vs := #[.int .u64 (st : Int)]) ?_ ?_
   ·generalize (puts A X ds).eval = ρ at h0 hf ⊢
    go_simp
   ·refine (jnum_any st W hst).mono ?_
    rintro r W' ⟨rfl, hb'⟩
    exact ⟨_, rfl, by rw [e4, hzst], hb'⟩
  ·have d0 := hd 0 (by kernel_rfl)
   rw [e0, g0] at d0
   have h0 := (hin (X := X) (k := 33) (by decide)).trans d0
   have d1 := hd 4 (by kernel_rfl)
   rw [e4, g4] at d1
   have h1 := (hin (X := X) (k := 37) (by decide)).trans d1
   have hs1 := hl1
   refine v_value (V := V 5) (v := .string (s0 ++ z0)) ?_ (by rw [e5])
   generalize (puts A X ds).eval = ρ at h0 h1 ⊢
   go_simp
  ·have h0 := hout (X := X) (k := 1) (by decide)
   rw [hA1] at h0
   refine v_value (V := V 6) (v := .pointer (some ⟨bx, 4, none⟩)) ?_ (by rw [e6])
   generalize (puts A X ds).eval = ρ at h0 ⊢
   go_simp
  ·have d0 := hd 6 (by kernel_rfl)
   rw [e6, g6] at d0
   have h0 := (hin (X := X) (k := 39) (by decide)).trans d0
   have c0 := (jobr_cells ((hb.block _ (Array.getElem?_eq_some_iff.1 hB).1).trans hB)).2.2.2.2.1
   refine v_value (V := V 7) (v := .int .i64 (se : Int)) ?_ (by rw [e7])
   generalize (puts A X ds).eval = ρ at h0 ⊢
   go_simp
  ·have d0 := hd 7 (by kernel_rfl)
   rw [e7, g7] at d0
   have h0 := (hin (X := X) (k := 40) (by decide)).trans d0
   have hcv := ju64n hse
   refine v_value (V := V 8) (v := .int .u64 (se : Int)) ?_ (by rw [e8])
   generalize (puts A X ds).eval = ρ at h0 ⊢
   go_simp
  ·have d0 := hd 8 (by kernel_rfl)
   rw [e8, g8] at d0
   have h0 := (hin (X := X) (k := 41) (by decide)).trans d0
   have hf : (puts A X ds).eval (.func 36) = .func (.func 36) #[] #[] := rfl
   refine v_call (V := V 9) (f := 36) (vs := #[.int .u64 (se : Int)]) ?_ ?_
   ·generalize (puts A X ds).eval = ρ at h0 hf ⊢
    go_simp
   ·refine (jnum_any se W hse).mono ?_
    rintro r W' ⟨rfl, hb'⟩
    exact ⟨_, rfl, by rw [e9, hzse], hb'⟩
  ·have d0 := hd 5 (by kernel_rfl)
   rw [e5, g5] at d0
   have h0 := (hin (X := X) (k := 38) (by decide)).trans d0
   have d1 := hd 9 (by kernel_rfl)
   rw [e9, g9] at d1
   have h1 := (hin (X := X) (k := 42) (by decide)).trans d1
   have hs1 := hl2
   refine v_value (V := V 10) (v := .string (s0 ++ z0 ++ z1)) ?_ (by rw [e10])
   generalize (puts A X ds).eval = ρ at h0 h1 ⊢
   go_simp
  ·have h0 := hout (X := X) (k := 1) (by decide)
   rw [hA1] at h0
   refine v_value (V := V 11) (v := .pointer (some ⟨bx, 5, none⟩)) ?_ (by rw [e11])
   generalize (puts A X ds).eval = ρ at h0 ⊢
   go_simp
  ·have d0 := hd 11 (by kernel_rfl)
   rw [e11, g11] at d0
   have h0 := (hin (X := X) (k := 44) (by decide)).trans d0
   have c0 := (jobr_cells ((hb.block _ (Array.getElem?_eq_some_iff.1 hB).1).trans hB)).2.2.2.2.2
   refine v_value (V := V 12) (v := .int .i64 (pa : Int)) ?_ (by rw [e12])
   generalize (puts A X ds).eval = ρ at h0 ⊢
   go_simp
  ·have d0 := hd 12 (by kernel_rfl)
   rw [e12, g12] at d0
   have h0 := (hin (X := X) (k := 45) (by decide)).trans d0
   have hcv := ju64n hpa
   refine v_value (V := V 13) (v := .int .u64 (pa : Int)) ?_ (by rw [e13])
   generalize (puts A X ds).eval = ρ at h0 ⊢
   go_simp
  ·have d0 := hd 13 (by kernel_rfl)
   rw [e13, g13] at d0
   have h0 := (hin (X := X) (k := 46) (by decide)).trans d0
   have hf : (puts A X ds).eval (.func 36) = .func (.func 36) #[] #[] := rfl
   refine v_call (V := V 14) (f := 36) (vs := #[.int .u64 (pa : Int)]) ?_ ?_
   ·generalize (puts A X ds).eval = ρ at h0 hf ⊢
    go_simp
   ·refine (jnum_any pa W hpa).mono ?_
    rintro r W' ⟨rfl, hb'⟩
    exact ⟨_, rfl, by rw [e14, hzpa], hb'⟩
  ·have d0 := hd 10 (by kernel_rfl)
   rw [e10, g10] at d0
   have h0 := (hin (X := X) (k := 43) (by decide)).trans d0
   have d1 := hd 14 (by kernel_rfl)
   rw [e14, g14] at d1
   have h1 := (hin (X := X) (k := 47) (by decide)).trans d1
   have hs1 := hl3
   refine v_value (V := V 15) (v := .string (s0 ++ z0 ++ z1 ++ z2)) ?_ (by rw [e15])
   generalize (puts A X ds).eval = ρ at h0 h1 ⊢
   go_simp
  ·have d0 := hd 15 (by kernel_rfl)
   rw [e15, g15] at d0
   have h0 := (hin (X := X) (k := 48) (by decide)).trans d0
   refine v_value (V := V 16) (v := .string (s0 ++ z0 ++ z1 ++ z2)) ?_ (by rw [e16])
   generalize (puts A X ds).eval = ρ at h0 ⊢
   go_simp
 ·intro X W hb hall
  have r0 := hall 0 (by decide)
  rw [e0, g0] at r0
  have r1 := hall 1 (by decide)
  rw [e1, g1] at r1
  have r2 := hall 2 (by decide)
  rw [e2, g2] at r2
  have r3 := hall 3 (by decide)
  rw [e3, g3] at r3
  have r4 := hall 4 (by decide)
  rw [e4, g4] at r4
  have r5 := hall 5 (by decide)
  rw [e5, g5] at r5
  have r6 := hall 6 (by decide)
  rw [e6, g6] at r6
  have r7 := hall 7 (by decide)
  rw [e7, g7] at r7
  have r8 := hall 8 (by decide)
  rw [e8, g8] at r8
  have r9 := hall 9 (by decide)
  rw [e9, g9] at r9
  have r10 := hall 10 (by decide)
  rw [e10, g10] at r10
  have r11 := hall 11 (by decide)
  rw [e11, g11] at r11
  have r12 := hall 12 (by decide)
  rw [e12, g12] at r12
  have r13 := hall 13 (by decide)
  rw [e13, g13] at r13
  have r14 := hall 14 (by decide)
  rw [e14, g14] at r14
  have r15 := hall 15 (by decide)
  rw [e15, g15] at r15
  have r16 := hall 16 (by decide)
  rw [e16, g16] at r16
  have := HK X W hb (by first | assumption | exact ⟨by assumption, by assumption⟩ | exact ⟨by assumption, by assumption, by assumption⟩ | simp_all)
  rw [hds] at this
  exact this
end Go.Proofs.YtmgjlamglhpnaaaGreat
