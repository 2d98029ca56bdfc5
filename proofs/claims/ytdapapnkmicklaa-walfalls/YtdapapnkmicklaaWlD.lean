/- A disk all of whose changes are sure, on plain data; a file made anew; the disk's contracts at such a disk. -/
import Derived.Test.YtdapapnkmicklaaWlClone
import Derived.Test.YtdapapnkmicklaaDkHit2
namespace Go.Proofs.Ytdapapnkmicklaa
open Go.RowKit Go.Maps
attribute [local go_sem] Oper.semAt_some
def fresh_ : Bs := [102, 114, 101, 115, 104]
def log_ : Bs := [108, 111, 103]
theorem fresh_log : ¬ fresh_ = log_ := by decide
theorem log_fresh : ¬ log_ = fresh_ := by decide
/-- A disk with power all of whose changes are sure: files of at most M bytes, at most k of them, behind at most k changes. -/
structure Cl (A : Dk) (M k : Nat) : Prop where
  loose : A.loose = []
  dead : A.dead = false
  sort : SortF A.sure
  fit : FitF M A.sure
  len : A.sure.length ≤ k
  n : A.n ≤ k
  plan : A.pv = .slice none 0 0
theorem Cl.now {A : Dk} {M k : Nat} (h : Cl A M k) : A.now = A.sure := by
  unfold Dk.now
  rw [h.loose]
  rfl
theorem Cl.mono {A : Dk} {M k j : Nat} (h : Cl A M k) (hj : k ≤ j) : Cl A M j := ⟨h.loose, h.dead, h.sort, h.fit, Nat.le_trans h.len hj, Nat.le_trans h.n hj, h.plan⟩
theorem FitF.put {M : Nat} {l : Fl} (h : FitF M l) (x v : Bs) (hv : v.length ≤ M) : FitF M (putF x v l) := by
  intro p hp
  rcases mem_putF hp with rfl | hp
  · exact hv
  · exact h p hp
theorem FitF.del {M : Nat} {l : Fl} (h : FitF M l) (x : Bs) : FitF M (delF x l) := fun p hp => h p (mem_delF hp)
theorem add_now (A : Dk) (c : Chg) : (A.add c).now = doF A.now c := by
  unfold Dk.now Dk.add
  exact doneF_snoc _ _ _
/-- The file made anew. -/
def Dk.anew (A : Dk) (F : Bs) : Dk := (((A.add ⟨1, fresh_, [], F⟩).sync).add ⟨2, fresh_, log_, []⟩).sync
def Dk.more (A : Dk) (F : Bs) : Dk := (A.add ⟨0, log_, [], F⟩).sync
section
variable {A : Dk} {M k : Nat} {F G : Bs}
theorem Cl.wr (h : Cl A M k) (hF : F.length ≤ M) : Cl (A.add ⟨1, fresh_, [], F⟩).sync M (k + 1) ∧ getF fresh_ (A.add ⟨1, fresh_, [], F⟩).sync.sure = some F ∧ ∀ y, ¬ y = fresh_ → getF y (A.add ⟨1, fresh_, [], F⟩).sync.sure = getF y A.sure := by
  have e : (A.add ⟨1, fresh_, [], F⟩).sync = ⟨putF fresh_ F A.sure, [], A.n + 1, A.dead, A.pv⟩ := by
    unfold Dk.sync
    rw [add_now, h.now]
    rfl
  rw [e]
  refine ⟨⟨rfl, h.dead, sort_putF _ _ h.sort, h.fit.put _ _ hF, ?_, Nat.succ_le_succ h.n, h.plan⟩, ?_, fun y hy => ?_⟩
  · exact Nat.le_trans (len_putF _ _ _) (Nat.succ_le_succ h.len)
  · exact (getF_put h.sort _ _ _).trans (if_pos rfl)
  · exact (getF_put h.sort _ _ _).trans (if_neg hy)
theorem Cl.mv (h : Cl A M k) (hG : getF fresh_ A.sure = some F) : Cl (A.add ⟨2, fresh_, log_, []⟩).sync M (k + 1) ∧ getF log_ (A.add ⟨2, fresh_, log_, []⟩).sync.sure = some F := by
  have hof : ofF fresh_ A.sure = F := by unfold ofF; rw [hG]; rfl
  have e : (A.add ⟨2, fresh_, log_, []⟩).sync = ⟨putF log_ F (delF fresh_ A.sure), [], A.n + 1, A.dead, A.pv⟩ := by
    unfold Dk.sync
    rw [add_now, h.now, ← hof]
    rfl
  have hF : F.length ≤ M := by rw [← hof]; exact h.fit.of _
  rw [e]
  refine ⟨⟨rfl, h.dead, sort_putF _ _ (sort_delF _ h.sort), (h.fit.del _).put _ _ hF, ?_, Nat.succ_le_succ h.n, h.plan⟩, ?_⟩
  · exact Nat.le_trans (len_putF _ _ _) (Nat.succ_le_succ (Nat.le_trans (len_delF _ _) h.len))
  · exact (getF_put (sort_delF _ h.sort) _ _ _).trans (if_pos rfl)
theorem Cl.anew (h : Cl A M k) (hF : F.length ≤ M) : Cl (A.anew F) M (k + 2) ∧ getF log_ (A.anew F).sure = some F := by
  obtain ⟨h1, h2, _⟩ := h.wr hF
  exact h1.mv h2
theorem Cl.more (h : Cl A M k) (hG : getF log_ A.sure = some G) (hF : (G ++ F).length ≤ M) : Cl (A.more F) M (k + 1) ∧ getF log_ (A.more F).sure = some (G ++ F) := by
  have hof : ofF log_ A.sure = G := by unfold ofF; rw [hG]; rfl
  have e : A.more F = ⟨putF log_ (G ++ F) A.sure, [], A.n + 1, A.dead, A.pv⟩ := by
    unfold Dk.more Dk.sync
    rw [add_now, h.now, ← hof]
    rfl
  rw [e]
  refine ⟨⟨rfl, h.dead, sort_putF _ _ h.sort, h.fit.put _ _ hF, ?_, Nat.succ_le_succ h.n, h.plan⟩, ?_⟩
  · exact Nat.le_trans (len_putF _ _ _) (Nat.succ_le_succ h.len)
  · exact (getF_put h.sort _ _ _).trans (if_pos rfl)
theorem Cl.bdA (h : Cl A M k) (hM : M ≤ 2305843009213693952) (hk : k ≤ 100000) : BdA A M := by
  refine ⟨h.fit, ?_, ?_, Nat.le_trans h.n (by omega)⟩
  · rw [h.loose]; simp [sz]; omega
  · rw [h.loose]; have := h.len; simp; omega
theorem Cl.bd (h : Cl A M k) (hM : M ≤ 2305843009213693952) (hk : k ≤ 100000) (c : Chg) (hc : c.s.length ≤ 2305843009213693952) : Bd A c := (h.bdA hM hk).toBd c (by omega) (by rw [h.loose]; simp)
/-- Behind a fall of such a disk nothing is lost. -/
theorem Cl.crash (h : Cl A M k) (keep tn : Int) : { A.fail keep tn with dead := false } = A := by
  have e : failF A.sure A.loose keep tn = A.sure := by
    rw [h.loose]
    unfold failF cutN
    simp [doneF]
  unfold Dk.fail
  rw [e]
  cases A
  simp only [Dk.mk.injEq, true_and, and_true]
  exact ⟨h.loose.symm, h.dead.symm⟩
end
section
variable {w : World} {B p : Nat} {A : Dk} {M k : Nat} {snap F : Bs} {v : Value} {R : List Bs}
theorem cl_write (h : DkAt w B p A) (hB : B ≤ w.heap.size) (hc : Cl A M k) (hM : M ≤ 2305843009213693952) (hk : k ≤ 100000) (hF : F.length ≤ M) : Calls Try.prog 27 #[.pointer (some ⟨p, 0, none⟩), .string (str fresh_), .string (str F)] w fun r w' => r = .returned (.int .i64 0) ∧ DkAt w' B p (A.add ⟨1, fresh_, [], F⟩) ∧ FrD B w w' := by
  obtain ⟨mn, ms, lv, h⟩ := h
  exact write_ok h hB (quiet_nil hc.plan) hc.dead (by decide) (hc.bd hM hk _ (Nat.le_trans hF hM))
theorem cl_append (h : DkAt w B p A) (hB : B ≤ w.heap.size) (hc : Cl A M k) (hM : M ≤ 2305843009213693952) (hk : k ≤ 100000) (hF : F.length ≤ M) : Calls Try.prog 30 #[.pointer (some ⟨p, 0, none⟩), .string (str log_), .string (str F)] w fun r w' => r = .returned (.int .i64 0) ∧ DkAt w' B p (A.add ⟨0, log_, [], F⟩) ∧ FrD B w w' := by
  obtain ⟨mn, ms, lv, h⟩ := h
  exact append_ok h hB (quiet_nil hc.plan) hc.dead (by decide) (hc.bd hM hk _ (Nat.le_trans hF hM))
theorem cl_move (h : DkAt w B p A) (hB : B ≤ w.heap.size) (hc : Cl A M k) (hM : M ≤ 2305843009213693952) (hk : k ≤ 100000) (hg : getF fresh_ A.sure = some F) : Calls Try.prog 35 #[.pointer (some ⟨p, 0, none⟩), .string (str fresh_), .string (str log_)] w fun r w' => r = .returned (.int .i64 0) ∧ DkAt w' B p (A.add ⟨2, fresh_, log_, []⟩) ∧ FrD B w w' := by
  obtain ⟨mn, ms, lv, h⟩ := h
  exact move_ok h hB (quiet_nil hc.plan) hc.dead (by decide) (by decide) (by rw [hc.now, hg]; rfl) fresh_log (hc.bd hM hk _ (by simp))
theorem cl_sync (c : Chg) (h : DkAt w B p (A.add c)) (hc : Cl A M k) (hk : k ≤ 100000) : Calls Try.prog 28 #[.pointer (some ⟨p, 0, none⟩)] w fun r w' => r = .returned (.int .i64 0) ∧ DkAt w' B p (A.add c).sync ∧ FrD B w w' := by
  obtain ⟨mn, ms, lv, h⟩ := h
  refine sync_any h hc.dead ?_
  show A.sure.length + (A.loose ++ [c]).length ≤ _
  rw [hc.loose]
  have := hc.len
  simp
  omega
set_option maxRecDepth 100000 in
set_option maxHeartbeats 1600000 in
/-- The file made anew, whatever its four calls on the disk lead to. -/
theorem makeAnew_core {A1 A2 A3 A4 : Dk} (hB : B ≤ w.heap.size) (hv : TxS w v R) (hR : (frs R).length ≤ 1000000) (hs : snap.length + 10 ≤ 140737488355328)
    (hW : ∀ W, Below w.heap.size w W → Calls Try.prog 27 #[.pointer (some ⟨p, 0, none⟩), .string (str fresh_), .string (str (frs (snap :: R)))] W fun r w' => r = .returned (.int .i64 0) ∧ DkAt w' B p A1 ∧ FrD B W w')
    (hS1 : ∀ W, DkAt W B p A1 → FrD B w W → Calls Try.prog 28 #[.pointer (some ⟨p, 0, none⟩)] W fun r w' => r = .returned (.int .i64 0) ∧ DkAt w' B p A2 ∧ FrD B W w')
    (hMv : ∀ W, B ≤ W.heap.size → DkAt W B p A2 → FrD B w W → Calls Try.prog 35 #[.pointer (some ⟨p, 0, none⟩), .string (str fresh_), .string (str log_)] W fun r w' => r = .returned (.int .i64 0) ∧ DkAt w' B p A3 ∧ FrD B W w')
    (hS2 : ∀ W, DkAt W B p A3 → FrD B w W → Calls Try.prog 28 #[.pointer (some ⟨p, 0, none⟩)] W fun r w' => r = .returned (.int .i64 0) ∧ DkAt w' B p A4 ∧ FrD B W w') :
    Calls Try.prog 44 #[.pointer (some ⟨p, 0, none⟩), .string (str snap), v] w fun r w' => r = .returned (.int .i64 0) ∧ DkAt w' B p A4 ∧ FrD B w w' := by
  have HFr : Hid (∀ W, Calls Try.prog 71 #[.string (str snap)] W fun e w' => e = .returned (.string (str (frameB snap))) ∧ Below W.heap.size W w') := fun W => frame_any (str snap) W hs
  have HFa : Hid (∀ W, Below w.heap.size w W → Calls Try.prog 47 #[v] W fun r w' => r = .returned (.string (str (frs R))) ∧ Below W.heap.size W w') := fun W hW => frameAll_any (hv.new hW) hR
  have HW : Hid (∀ W, Below w.heap.size w W → Calls Try.prog 27 #[.pointer (some ⟨p, 0, none⟩), .string (str fresh_), .string (str (frameB snap) ++ str (frs R))] W fun r w' => r = .returned (.int .i64 0) ∧ DkAt w' B p A1 ∧ FrD B W w') := fun W hb => by
    rw [str_append, ← frs_cons]
    exact hW W hb
  have HS1 : Hid _ := hS1
  have HM : Hid _ := hMv
  have HS2 : Hid _ := hS2
  have HB0 : Hid (B ≤ w.heap.size) := hB
  have hsz : (str (frameB snap)).size ≤ 140737488355342 := by
    have := frameB_le snap (by omega)
    rw [str_size]
    omega
  have hsz2 : (str (frs R)).size ≤ 1000000 := hR
  obtain ⟨ao, cap, rfl, _, _⟩ := hv
  clear hB hR hs hW hS1 hMv hS2
  generalize str (frameB snap) = s1 at HFr HW hsz
  generalize str (frs R) = s2 at HFa HW hsz2
  have t1 : True := trivial
  go_enter Try.func44, Try.ntmps44
  go_wp2_with (first
    | (go_at_call 71; refine (HFr.out _).mono ?_; rintro r w1 ⟨rfl, hb⟩; have HB1 : Hid (Below w.heap.size w w1) := hb; clear hb)
    | (go_at_call 47; refine (HFa.out _ HB1.out).mono ?_; rintro r w2 ⟨rfl, hb⟩; have HB2 : Hid (Below w.heap.size w w2) := HB1.out.trans (hb.mono HB1.out.size); clear hb)
    | (go_at_call 27; refine (HW.out _ HB2.out).mono ?_; rintro r w3 ⟨rfl, hD, hF⟩; have HD3 : Hid _ := hD; have HF3 : Hid (FrD B w w3) := (FrD.new HB2.out).trans hF; clear hD hF)
    | (go_at_call 28; have _t := t1; clear t1; refine (HS1.out _ HD3.out HF3.out).mono ?_; rintro r w4 ⟨rfl, hD, hF⟩; have HD4 : Hid _ := hD; have HF4 : Hid (FrD B w w4) := HF3.out.trans hF; clear hD hF)
    | (go_at_call 35; refine (HM.out _ (Nat.le_trans HB0.out HF4.out.size) HD4.out HF4.out).mono ?_; rintro r w5 ⟨rfl, hD, hF⟩; have HD5 : Hid _ := hD; have HF5 : Hid (FrD B w w5) := HF4.out.trans hF; clear hD hF)
    | (go_at_call 28; refine (HS2.out _ HD5.out HF5.out).mono ?_; rintro r w6 ⟨rfl, hD, hF⟩; have HD6 : Hid _ := hD; have HF6 : Hid (FrD B w w6) := HF5.out.trans hF; clear hD hF))
  go_ret
  exact ⟨rfl, HD6.out, HF6.out⟩
theorem makeAnew_any (h : DkAt w B p A) (hB : B ≤ w.heap.size) (hc : Cl A M k) (hM : M ≤ 2305843009213693952) (hk : k ≤ 90000) (hv : TxS w v R) (hR : (frs R).length ≤ 1000000) (hs : snap.length + 10 ≤ 140737488355328) (hF : (frs (snap :: R)).length ≤ M) : Calls Try.prog 44 #[.pointer (some ⟨p, 0, none⟩), .string (str snap), v] w fun r w' => r = .returned (.int .i64 0) ∧ DkAt w' B p (A.anew (frs (snap :: R))) ∧ FrD B w w' := by
  obtain ⟨h1, h2, _⟩ := hc.wr (F := frs (snap :: R)) hF
  exact makeAnew_core hB hv hR hs (fun W hW => cl_write (h.new hW) (Nat.le_trans hB hW.size) hc hM (by omega) hF) (fun W hD _ => cl_sync _ hD hc (by omega)) (fun W hBW hD _ => cl_move hD hBW h1 hM (by omega) h2) (fun W hD _ => cl_sync _ hD h1 (by omega))
set_option maxRecDepth 100000 in
set_option maxHeartbeats 1600000 in
/-- .. and where the first change finds no power, or the second. -/
theorem makeAnew_7w {Q : World → Prop} (hv : TxS w v R) (hR : (frs R).length ≤ 1000000) (hs : snap.length + 10 ≤ 140737488355328)
    (hW : ∀ W, Below w.heap.size w W → Calls Try.prog 27 #[.pointer (some ⟨p, 0, none⟩), .string (str fresh_), .string (str (frs (snap :: R)))] W fun r w' => r = .returned (.int .i64 7) ∧ Q w') :
    Calls Try.prog 44 #[.pointer (some ⟨p, 0, none⟩), .string (str snap), v] w fun r w' => r = .returned (.int .i64 7) ∧ Q w' := by
  have HFr : Hid (∀ W, Calls Try.prog 71 #[.string (str snap)] W fun e w' => e = .returned (.string (str (frameB snap))) ∧ Below W.heap.size W w') := fun W => frame_any (str snap) W hs
  have HFa : Hid (∀ W, Below w.heap.size w W → Calls Try.prog 47 #[v] W fun r w' => r = .returned (.string (str (frs R))) ∧ Below W.heap.size W w') := fun W hW => frameAll_any (hv.new hW) hR
  have HW : Hid (∀ W, Below w.heap.size w W → Calls Try.prog 27 #[.pointer (some ⟨p, 0, none⟩), .string (str fresh_), .string (str (frameB snap) ++ str (frs R))] W fun r w' => r = .returned (.int .i64 7) ∧ Q w') := fun W hb => by
    rw [str_append, ← frs_cons]
    exact hW W hb
  have hsz : (str (frameB snap)).size ≤ 140737488355342 := by
    have := frameB_le snap (by omega)
    rw [str_size]
    omega
  have hsz2 : (str (frs R)).size ≤ 1000000 := hR
  obtain ⟨ao, cap, rfl, _, _⟩ := hv
  clear hR hs hW
  generalize str (frameB snap) = s1 at HFr HW hsz
  generalize str (frs R) = s2 at HFa HW hsz2
  go_enter Try.func44, Try.ntmps44
  go_wp2_with (first
    | (go_at_call 71; refine (HFr.out _).mono ?_; rintro r w1 ⟨rfl, hb⟩; have HB1 : Hid (Below w.heap.size w w1) := hb; clear hb)
    | (go_at_call 47; refine (HFa.out _ HB1.out).mono ?_; rintro r w2 ⟨rfl, hb⟩; have HB2 : Hid (Below w.heap.size w w2) := HB1.out.trans (hb.mono HB1.out.size); clear hb)
    | (go_at_call 27; refine (HW.out _ HB2.out).mono ?_; rintro r w3 ⟨rfl, hq⟩; have HQ3 : Hid (Q w3) := hq; clear hq))
  go_ret
  exact ⟨rfl, HQ3.out⟩
set_option maxRecDepth 100000 in
set_option maxHeartbeats 1600000 in
theorem makeAnew_7m {A1 A2 : Dk} {Q : World → Prop} (hB : B ≤ w.heap.size) (hv : TxS w v R) (hR : (frs R).length ≤ 1000000) (hs : snap.length + 10 ≤ 140737488355328)
    (hW : ∀ W, Below w.heap.size w W → Calls Try.prog 27 #[.pointer (some ⟨p, 0, none⟩), .string (str fresh_), .string (str (frs (snap :: R)))] W fun r w' => r = .returned (.int .i64 0) ∧ DkAt w' B p A1 ∧ FrD B W w')
    (hS1 : ∀ W, DkAt W B p A1 → FrD B w W → Calls Try.prog 28 #[.pointer (some ⟨p, 0, none⟩)] W fun r w' => r = .returned (.int .i64 0) ∧ DkAt w' B p A2 ∧ FrD B W w')
    (hMv : ∀ W, B ≤ W.heap.size → DkAt W B p A2 → FrD B w W → Calls Try.prog 35 #[.pointer (some ⟨p, 0, none⟩), .string (str fresh_), .string (str log_)] W fun r w' => r = .returned (.int .i64 7) ∧ Q w') :
    Calls Try.prog 44 #[.pointer (some ⟨p, 0, none⟩), .string (str snap), v] w fun r w' => r = .returned (.int .i64 7) ∧ Q w' := by
  have HFr : Hid (∀ W, Calls Try.prog 71 #[.string (str snap)] W fun e w' => e = .returned (.string (str (frameB snap))) ∧ Below W.heap.size W w') := fun W => frame_any (str snap) W hs
  have HFa : Hid (∀ W, Below w.heap.size w W → Calls Try.prog 47 #[v] W fun r w' => r = .returned (.string (str (frs R))) ∧ Below W.heap.size W w') := fun W hW => frameAll_any (hv.new hW) hR
  have HW : Hid (∀ W, Below w.heap.size w W → Calls Try.prog 27 #[.pointer (some ⟨p, 0, none⟩), .string (str fresh_), .string (str (frameB snap) ++ str (frs R))] W fun r w' => r = .returned (.int .i64 0) ∧ DkAt w' B p A1 ∧ FrD B W w') := fun W hb => by
    rw [str_append, ← frs_cons]
    exact hW W hb
  have HS1 : Hid _ := hS1
  have HM : Hid _ := hMv
  have HB0 : Hid (B ≤ w.heap.size) := hB
  have hsz : (str (frameB snap)).size ≤ 140737488355342 := by
    have := frameB_le snap (by omega)
    rw [str_size]
    omega
  have hsz2 : (str (frs R)).size ≤ 1000000 := hR
  obtain ⟨ao, cap, rfl, _, _⟩ := hv
  clear hB hR hs hW hS1 hMv
  generalize str (frameB snap) = s1 at HFr HW hsz
  generalize str (frs R) = s2 at HFa HW hsz2
  go_enter Try.func44, Try.ntmps44
  go_wp2_with (first
    | (go_at_call 71; refine (HFr.out _).mono ?_; rintro r w1 ⟨rfl, hb⟩; have HB1 : Hid (Below w.heap.size w w1) := hb; clear hb)
    | (go_at_call 47; refine (HFa.out _ HB1.out).mono ?_; rintro r w2 ⟨rfl, hb⟩; have HB2 : Hid (Below w.heap.size w w2) := HB1.out.trans (hb.mono HB1.out.size); clear hb)
    | (go_at_call 27; refine (HW.out _ HB2.out).mono ?_; rintro r w3 ⟨rfl, hD, hF⟩; have HD3 : Hid _ := hD; have HF3 : Hid (FrD B w w3) := (FrD.new HB2.out).trans hF; clear hD hF)
    | (go_at_call 28; refine (HS1.out _ HD3.out HF3.out).mono ?_; rintro r w4 ⟨rfl, hD, hF⟩; have HD4 : Hid _ := hD; have HF4 : Hid (FrD B w w4) := HF3.out.trans hF; clear hD hF)
    | (go_at_call 35; refine (HM.out _ (Nat.le_trans HB0.out HF4.out.size) HD4.out HF4.out).mono ?_; rintro r w5 ⟨rfl, hq⟩; have HQ5 : Hid (Q w5) := hq; clear hq))
  go_ret
  exact ⟨rfl, HQ5.out⟩
end
end Go.Proofs.Ytdapapnkmicklaa
