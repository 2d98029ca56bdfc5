import Derived.Test.YtdapapnkmicklaaDkPlanM
import Derived.Deep.CutBlock
import Derived.Deep.DeepCutAuto
section
/- What WalFalls holds behind each act: the log and its disk with a plan, or the disk without power. -/
namespace Go.Proofs.Ytdapapnkmicklaa
open Go.RowKit Go.Maps
attribute [local go_sem] Oper.semAt_some
abbrev Falls := List (Int × Int × Int)
/-- The disk without power. -/
def Dk.off (A : Dk) : Dk := { A with dead := true }
theorem Cl.fail {A : Dk} {M k : Nat} (h : Cl A M k) (keep tn : Int) : A.fail keep tn = A.off := by
  have e := h.crash keep tn
  have e2 : { { A.fail keep tn with dead := false } with dead := true } = ({ A with dead := true } : Dk) := by rw [e]
  exact e2
theorem wp_self {A : Dk} {M k : Nat} (h : Cl A M k) : A.wp (.slice none 0 0) = A := by
  rw [← h.plan]
  rfl
theorem Bd.wp {A : Dk} {c : Chg} (h : Bd A c) (v : Value) : Bd (A.wp v) c := ⟨h.len, h.fit, h.n, h.l⟩
/-- No fall at these numbers. -/
def Free (L : Falls) (n : Nat) : Prop := ∀ f ∈ L.head?, ¬ f.1 = (n : Int)
section
variable {w : World} {B p : Nat} {A : Dk} {M k : Nat} {F : Bs} {v : Value} {L : Falls} {f : Int × Int × Int}
theorem q_write (h : DkAt w B p (A.wp v)) (hB : B ≤ w.heap.size) (hc : Cl A M k) (hM : M ≤ 2305843009213693952) (hk : k ≤ 100000) (hF : F.length ≤ M) (hp : PlanIs w v L) (hf : Free L A.n) : Calls Try.prog 27 #[.pointer (some ⟨p, 0, none⟩), .string (str fresh_), .string (str F)] w fun r w' => r = .returned (.int .i64 0) ∧ DkAt w' B p ((A.add ⟨1, fresh_, [], F⟩).wp v) ∧ FrD B w w' := by
  obtain ⟨mn, ms, lv, h⟩ := h
  exact write_ok h hB ⟨L, hp, hf⟩ hc.dead (by decide) ((hc.bd hM hk _ (Nat.le_trans hF hM)).wp v)
theorem q_append (h : DkAt w B p (A.wp v)) (hB : B ≤ w.heap.size) (hc : Cl A M k) (hM : M ≤ 2305843009213693952) (hk : k ≤ 100000) (hF : F.length ≤ M) (hp : PlanIs w v L) (hf : Free L A.n) : Calls Try.prog 30 #[.pointer (some ⟨p, 0, none⟩), .string (str log_), .string (str F)] w fun r w' => r = .returned (.int .i64 0) ∧ DkAt w' B p ((A.add ⟨0, log_, [], F⟩).wp v) ∧ FrD B w w' := by
  obtain ⟨mn, ms, lv, h⟩ := h
  exact append_ok h hB ⟨L, hp, hf⟩ hc.dead (by decide) ((hc.bd hM hk _ (Nat.le_trans hF hM)).wp v)
theorem q_move (h : DkAt w B p (A.wp v)) (hB : B ≤ w.heap.size) (hc : Cl A M k) (hM : M ≤ 2305843009213693952) (hk : k ≤ 100000) (hg : getF fresh_ A.sure = some F) (hp : PlanIs w v L) (hf : Free L A.n) : Calls Try.prog 35 #[.pointer (some ⟨p, 0, none⟩), .string (str fresh_), .string (str log_)] w fun r w' => r = .returned (.int .i64 0) ∧ DkAt w' B p ((A.add ⟨2, fresh_, log_, []⟩).wp v) ∧ FrD B w w' := by
  obtain ⟨mn, ms, lv, h⟩ := h
  exact move_ok h hB ⟨L, hp, hf⟩ hc.dead (by decide) (by decide) (by show (getF fresh_ A.now).isSome = true; rw [hc.now, hg]; rfl) fresh_log ((hc.bd hM hk _ (by simp)).wp v)
theorem q_sync (c : Chg) (h : DkAt w B p ((A.add c).wp v)) (hc : Cl A M k) (hk : k ≤ 100000) : Calls Try.prog 28 #[.pointer (some ⟨p, 0, none⟩)] w fun r w' => r = .returned (.int .i64 0) ∧ DkAt w' B p ((A.add c).sync.wp v) ∧ FrD B w w' := by
  obtain ⟨mn, ms, lv, h⟩ := h
  refine sync_any h hc.dead ?_
  show A.sure.length + (A.loose ++ [c]).length ≤ _
  rw [hc.loose]
  have := hc.len
  simp
  omega
/-- The disk behind a fall. -/
def Fell (w w' : World) (B p : Nat) (A : Dk) : Prop := ∃ v, DkAt w' B p (A.off.wp v) ∧ FrD B w w'
theorem HitAt.fell {w' : World} (hc : Cl A M k) (h : HitAt w w' B p (A.wp v) f L) : Fell w w' B p A := by
  obtain ⟨v', h1, _, h3⟩ := h
  have e : (((A.wp v).fail f.2.1 f.2.2).wp v') = A.off.wp v' := by
    show (A.fail f.2.1 f.2.2).wp v' = _
    rw [hc.fail]
  rw [e] at h1
  exact ⟨v', h1, h3⟩
theorem Fell.back {w0 w' : World} (h : Fell w w' B p A) (f : FrD B w0 w) : Fell w0 w' B p A := by
  obtain ⟨v, h1, h2⟩ := h
  exact ⟨v, h1, f.trans h2⟩
theorem h_write (h : DkAt w B p (A.wp v)) (hB : B ≤ w.heap.size) (hc : Cl A M k) (hM : M ≤ 2305843009213693952) (hk : k ≤ 100000) (hp : PlanIs w v (f :: L)) (he : f.1 = (A.n : Int)) : Calls Try.prog 27 #[.pointer (some ⟨p, 0, none⟩), .string (str fresh_), .string (str F)] w fun r w' => r = .returned (.int .i64 7) ∧ Fell w w' B p A := by
  obtain ⟨mn, ms, lv, h⟩ := h
  refine (write_hit h hB hc.dead (by decide) hp he ((hc.bdA hM hk).wp v)).mono ?_
  rintro r w' ⟨rfl, h2⟩
  exact ⟨rfl, HitAt.fell hc h2⟩
theorem h_append (h : DkAt w B p (A.wp v)) (hB : B ≤ w.heap.size) (hc : Cl A M k) (hM : M ≤ 2305843009213693952) (hk : k ≤ 100000) (hp : PlanIs w v (f :: L)) (he : f.1 = (A.n : Int)) : Calls Try.prog 30 #[.pointer (some ⟨p, 0, none⟩), .string (str log_), .string (str F)] w fun r w' => r = .returned (.int .i64 7) ∧ Fell w w' B p A := by
  obtain ⟨mn, ms, lv, h⟩ := h
  refine (append_hit h hB hc.dead (by decide) hp he ((hc.bdA hM hk).wp v)).mono ?_
  rintro r w' ⟨rfl, h2⟩
  exact ⟨rfl, HitAt.fell hc h2⟩
theorem h_move (h : DkAt w B p (A.wp v)) (hB : B ≤ w.heap.size) (hc : Cl A M k) (hM : M ≤ 2305843009213693952) (hk : k ≤ 100000) (hg : getF fresh_ A.sure = some F) (hp : PlanIs w v (f :: L)) (he : f.1 = (A.n : Int)) : Calls Try.prog 35 #[.pointer (some ⟨p, 0, none⟩), .string (str fresh_), .string (str log_)] w fun r w' => r = .returned (.int .i64 7) ∧ Fell w w' B p A := by
  obtain ⟨mn, ms, lv, h⟩ := h
  refine (move_hit h hB hc.dead (by decide) (by decide) (by show (getF fresh_ A.now).isSome = true; rw [hc.now, hg]; rfl) fresh_log hp he ((hc.bdA hM hk).wp v)).mono ?_
  rintro r w' ⟨rfl, h2⟩
  exact ⟨rfl, HitAt.fell hc h2⟩
end
/-- What is told of the log's file. -/
structure PF (k : Nat) (snap : Bs) (R : List Bs) (A : Dk) : Prop where
  cl : Cl A MW (2 * k + 2)
  file : getF log_ A.sure = some (frs (snap :: R))
  len : R.length ≤ 6 * k
  recs : (frs R).length ≤ 1284 * k
  each : ∀ x ∈ R, x.length ≤ 200
  hs : snap.length ≤ 140737488351232
theorem PF.more {k : Nat} {snap : Bs} {R : List Bs} {A : Dk} (h : PF k snap R A) : PF (k + 1) snap R A := ⟨h.cl.mono (by omega), h.file, by have := h.len; omega, by have := h.recs; omega, h.each, h.hs⟩
/-- The log and its disk with a plan. -/
structure PQ (n0 : Nat) (wx : World) (q : Nat) (rv : Value) (snap : Bs) (R : List Bs) (A : Dk) (v : Value) (L : Falls) : Prop where
  lg : Lg wx n0 q n0 snap rv R
  dk : DkAt wx n0 n0 (A.wp v)
  plan : PlanIs wx v L
theorem PQ.new {n0 : Nat} {wx wy : World} {q : Nat} {rv v : Value} {snap : Bs} {R : List Bs} {A : Dk} {L : Falls} (h : PQ n0 wx q rv snap R A v L) (hb : Below wx.heap.size wx wy) : PQ n0 wy q rv snap R A v L := ⟨h.lg.new hb, h.dk.new hb, h.plan.new hb⟩
/-- A block of another kind is none that a log writes. -/
theorem other_no {W : World} {n0 q p ab : Nat} {snap : Bs} {rv : Value} {R : List Bs} {cs : Array Value} {t : TypeId} {fr : Nat × Nat} (h : W.heap[ab]? = some (.cells cs t fr)) (h1 : t ≠ 69) (h2 : t ≠ 104) (h3 : t ≠ 89) (h4 : t ≠ 9) (hl : Lg W n0 q p snap rv R) : ((n0 ≤ ab ∧ DkB W ab) ∨ ab = q ∨ rv.ownBlock = some ab) → False := by
  rintro (⟨_, ⟨es, c, hm⟩ | ⟨c, t', f, hm, ht⟩⟩ | rfl | hr)
  · rw [h] at hm; cases hm
  · rw [h] at hm
    cases hm
    rcases ht with ht | ht
    · exact h1 ht
    · exact h2 ht
  · rw [hl.blk] at h
    cases h
    exact h3 rfl
  · obtain ⟨_, c, f, hb⟩ := hl.row.tag hr
    rw [h] at hb
    cases hb
    exact h4 rfl
section
variable {wx : World} {n0 k q : Nat} {rv av v : Value} {snap : Bs} {R : List Bs} {A : Dk} {L : Falls}
theorem PQ.planKept {w' : World} (h : PQ n0 wx q rv snap R A v L) (f : Fr wx w' (fun k => (n0 ≤ k ∧ DkB wx k) ∨ k = q ∨ rv.ownBlock = some k)) : PlanIs w' v L := h.plan.kept (fun g cs fr hg => f.block g (lt_blk hg) (fun s => other_no hg (by decide) (by decide) (by decide) (by decide) h.lg s))
theorem q_reset {s2 : Bs} {x : Value} {Y : List Bs} (h : PQ n0 wx q rv snap R A v L) (hF : PF k snap R A) (hlow : n0 ≤ wx.heap.size) (hk : k ≤ 30) (hx : TxO wx 0 x (cutT Y)) (hs : s2.length ≤ 140737488351232) (hf : Free L A.n) (hf1 : Free L (A.n + 1)) : Calls Try.prog 14 #[.pointer (some ⟨q, 0, none⟩), .string (str s2), x] wx fun r w' => r = .returned (.int .i64 0) ∧ ∃ rv' A', PQ n0 w' q rv' s2 (cutT Y) A' v L ∧ PF (k + 1) s2 (cutT Y) A' ∧ (∀ j, rv'.ownBlock = some j → wx.heap.size ≤ j) ∧ Fr wx w' (fun k => (n0 ≤ k ∧ DkB wx k) ∨ k = q) := by
  have hy := cutT_frs Y
  have hl := cutT_len Y
  have hFF : (frs (s2 :: cutT Y)).length ≤ MW := pl_fit (k := 1) (by decide) hs (by omega)
  have hMW : MW ≤ 2305843009213693952 := by decide
  obtain ⟨h1, h2, _⟩ := hF.cl.wr (F := frs (s2 :: cutT Y)) hFF
  obtain ⟨c1, c2⟩ := hF.cl.anew hFF
  have hA := makeAnew_core (A4 := (A.anew (frs (s2 :: cutT Y))).wp v) hlow hx.toS (by omega) (by omega) (fun W hW => q_write (h.dk.new hW) (Nat.le_trans hlow hW.size) hF.cl hMW (by omega) hFF (h.plan.new hW) hf) (fun W hD _ => q_sync _ hD hF.cl (by omega)) (fun W hBW hD hFr => q_move hD hBW h1 hMW (by omega) h2 (h.plan.frD hFr) hf1) (fun W hD _ => q_sync _ hD h1 (by omega))
  refine (reset_core h.lg hlow hx (by omega) hA).mono ?_
  rintro r w' ⟨rfl, h3, ⟨rv', h4, h5⟩, h6⟩
  refine ⟨rfl, rv', _, ⟨h4, h3, h.planKept (Fr.mono h6 (fun j _ s => s.imp_right .inl))⟩, ⟨c1.mono (by omega), c2, by omega, by omega, cutT_each Y, hs⟩, h5, h6⟩
theorem q_reset7 {s2 : Bs} {x : Value} {Y : List Bs} {f : Int × Int × Int} (h : PQ n0 wx q rv snap R A v (f :: L)) (hF : PF k snap R A) (hlow : n0 ≤ wx.heap.size) (hk : k ≤ 30) (hx : TxO wx 0 x (cutT Y)) (hs : s2.length ≤ 140737488351232) (hf : f.1 = (A.n : Int) ∨ f.1 = ((A.n + 1 : Nat) : Int)) : Calls Try.prog 14 #[.pointer (some ⟨q, 0, none⟩), .string (str s2), x] wx fun r w' => r = .returned (.int .i64 7) ∧ ∃ A', Fell wx w' n0 n0 A' ∧ PF (k + 1) snap R A' := by
  have hy := cutT_frs Y
  have hFF : (frs (s2 :: cutT Y)).length ≤ MW := pl_fit (k := 1) (by decide) hs (by omega)
  have hMW : MW ≤ 2305843009213693952 := by decide
  obtain ⟨h1, h2, h9⟩ := hF.cl.wr (F := frs (s2 :: cutT Y)) hFF
  rcases hf with hf | hf
  · refine reset_7 (Q := fun w' => ∃ A', Fell wx w' n0 n0 A' ∧ PF (k + 1) snap R A') h.lg (makeAnew_7w hx.toS (by omega) (by omega) (fun W hW => (h_write (h.dk.new hW) (Nat.le_trans hlow hW.size) hF.cl hMW (by omega) (h.plan.new hW) hf).mono ?_))
    rintro r w' ⟨rfl, h3⟩
    exact ⟨rfl, A, h3.back (FrD.new hW), hF.more⟩
  · have hfr : Free (f :: L) A.n := fun g hg => by
      obtain rfl : f = g := by simpa using hg
      omega
    refine reset_7 (Q := fun w' => ∃ A', Fell wx w' n0 n0 A' ∧ PF (k + 1) snap R A') h.lg (makeAnew_7m hlow hx.toS (by omega) (by omega) (fun W hW => q_write (h.dk.new hW) (Nat.le_trans hlow hW.size) hF.cl hMW (by omega) hFF (h.plan.new hW) hfr) (fun W hD _ => q_sync _ hD hF.cl (by omega)) (fun W hBW hD hFr => (h_move hD hBW h1 hMW (by omega) h2 (h.plan.frD hFr) hf).mono ?_))
    rintro r w' ⟨rfl, h3⟩
    exact ⟨rfl, _, h3.back hFr, ⟨h1.mono (by omega), (h9 log_ log_fresh).trans hF.file, by have := hF.len; omega, by have := hF.recs; omega, hF.each, hF.hs⟩⟩
theorem q_add {x : Value} {Y : List Bs} (h : PQ n0 wx q rv snap R A v L) (hF : PF k snap R A) (hlow : n0 ≤ wx.heap.size) (hk : k ≤ 30) (hx : TxO wx 0 x (cutT Y)) (hf : Free L A.n) : Calls Try.prog 18 #[.pointer (some ⟨q, 0, none⟩), x] wx fun r w' => r = .returned (.int .i64 0) ∧ ∃ rv' A', PQ n0 w' q rv' snap (R ++ cutT Y) A' v L ∧ PF (k + 1) snap (R ++ cutT Y) A' ∧ (∀ j, rv'.ownBlock = some j → rv.ownBlock = some j ∨ wx.heap.size ≤ j) ∧ Fr wx w' (fun k => (n0 ≤ k ∧ DkB wx k) ∨ k = q ∨ rv.ownBlock = some k) := by
  have hy := cutT_frs Y
  have hl := cutT_len Y
  have hr := hF.recs
  have hln := hF.len
  have hMW : MW ≤ 2305843009213693952 := by decide
  have hMW2 : 1000000 ≤ MW := by decide
  have hF1 : (frs R ++ frs (cutT Y)).length ≤ 1284 * (k + 1) := by rw [List.length_append]; omega
  have hFF : (frs (snap :: R) ++ frs (cutT Y)).length ≤ MW := by
    rw [← frs_append]
    exact pl_fit (k := k + 1) (R := R ++ cutT Y) (by omega) hF.hs (by rw [frs_append]; exact hF1)
  obtain ⟨c1, c2⟩ := hF.cl.more hF.file hFF
  rw [← frs_append] at c2
  refine (add_core (A4 := (A.more (frs (cutT Y))).wp v) h.lg hlow hx (by omega) (by omega) (fun W hW => q_append (h.dk.new hW) (Nat.le_trans hlow hW.size) hF.cl hMW (by omega) (by omega) (h.plan.new hW) hf) (fun W hD _ => q_sync _ hD hF.cl (by omega))).mono ?_
  rintro r w' ⟨rfl, h3, ⟨rv', h4, h5⟩, h6⟩
  refine ⟨rfl, rv', _, ⟨h4, h3, h.planKept h6⟩, ⟨c1.mono (by omega), c2, by rw [List.length_append]; omega, by rw [frs_append]; exact hF1, ?_, hF.hs⟩, h5, h6⟩
  intro y hy'
  rcases List.mem_append.1 hy' with hy' | hy'
  · exact hF.each y hy'
  · exact cutT_each Y y hy'
theorem q_add7 {x : Value} {Y : List Bs} {f : Int × Int × Int} (h : PQ n0 wx q rv snap R A v (f :: L)) (hF : PF k snap R A) (hlow : n0 ≤ wx.heap.size) (hk : k ≤ 30) (hx : TxO wx 0 x (cutT Y)) (hf : f.1 = (A.n : Int)) : Calls Try.prog 18 #[.pointer (some ⟨q, 0, none⟩), x] wx fun r w' => r = .returned (.int .i64 7) ∧ ∃ A', Fell wx w' n0 n0 A' ∧ PF (k + 1) snap R A' := by
  have hy := cutT_frs Y
  have hMW : MW ≤ 2305843009213693952 := by decide
  refine add_7 (Q := fun w' => ∃ A', Fell wx w' n0 n0 A' ∧ PF (k + 1) snap R A') h.lg hx (by omega) (fun W hW => (h_append (h.dk.new hW) (Nat.le_trans hlow hW.size) hF.cl hMW (by omega) (h.plan.new hW) hf).mono ?_)
  rintro r w' ⟨rfl, h3⟩
  exact ⟨rfl, A, h3.back (FrD.new hW), hF.more⟩
end
section
variable {w : World} {n0 k : Nat} {A : Dk} {v : Value} {snap : Bs} {R : List Bs}
theorem f_crash (h : DkAt w n0 n0 (A.wp v) ∨ DkAt w n0 n0 (A.off.wp v)) (hF : PF k snap R A) (hk : k ≤ 31) (hlow : n0 ≤ w.heap.size) (keep tn : Int) : Calls Try.prog 16 #[.pointer (some ⟨n0, 0, none⟩), .int .i64 keep, .int .i64 tn] w fun r w' => r = .returned (.tuple #[]) ∧ DkAt w' n0 n0 (A.off.wp v) ∧ FrD n0 w w' := by
  rcases h with h | h
  · obtain ⟨mn, ms, lv, h⟩ := h
    have := crash_any h hlow ((hF.cl.bdA (by decide) (by omega)).wp v) hF.cl.dead keep tn
    have e : (A.wp v).fail keep tn = A.off.wp v := by
      show (A.fail keep tn).wp v = _
      rw [hF.cl.fail]
    rw [e] at this
    exact this
  · obtain ⟨mn, ms, lv, h'⟩ := id h
    refine (crash_dead (.pointer (some ⟨n0, 0, none⟩)) _ _ (dead_any h')).mono ?_
    rintro r w' ⟨rfl, rfl⟩
    exact ⟨rfl, h, FrD.refl _ _⟩
theorem f_up (h : DkAt w n0 n0 (A.off.wp v)) (hF : PF k snap R A) : Calls Try.prog 17 #[.pointer (some ⟨n0, 0, none⟩)] w fun r w' => r = .returned (.bool true) ∧ DkAt w' n0 n0 (A.wp v) ∧ FrD n0 w w' := by
  obtain ⟨mn, ms, lv, h⟩ := h
  have := up_dead h rfl
  have e : { A.off.wp v with dead := false } = A.wp v := by
    show ({ A with pv := v, dead := false } : Dk) = _
    have hd := hF.cl.dead
    cases A
    simp only at hd
    subst hd
    rfl
  rw [e] at this
  exact this
theorem f_plan (h : DkAt w n0 n0 (A.wp v)) (hF : PF k snap R A) (hlow : n0 ≤ w.heap.size) : Calls Try.prog 24 #[.pointer (some ⟨n0, 0, none⟩), .slice none 0 0] w fun r w' => r = .returned (.tuple #[]) ∧ DkAt w' n0 n0 A ∧ FrD n0 w w' := by
  have := plan_none h hlow
  have e : (A.wp v).wp (.slice none 0 0) = A := wp_self hF.cl
  rw [e] at this
  exact this
theorem f_open (h : DkAt w n0 n0 A) (hF : PF k snap R A) (hk : k ≤ 31) (hlow : n0 ≤ w.heap.size) : Calls Try.prog 12 #[.pointer (some ⟨n0, 0, none⟩)] w fun r w' => ∃ q rv, r = .returned (.tuple #[.pointer (some ⟨q, 0, none⟩), .int .i64 0, .int .i64 0]) ∧ Lg w' n0 q n0 snap rv R ∧ FrD n0 w w' := by
  have hU := unfV_all (snap :: R) (fun x hx => by
    rcases List.mem_cons.1 hx with rfl | hx
    · have := hF.hs; omega
    · have := hF.each x hx; omega)
  refine (open_again h hlow hF.cl (by decide) (by omega) hF.file hU (by have := hF.len; omega)).mono ?_
  rintro r w' ⟨q', rv', rfl, _, h2, _, _, h5⟩
  exact ⟨q', rv', rfl, h2, h5⟩
end
end Go.Proofs.Ytdapapnkmicklaa
end

section
/- What WalPlays returns: true. -/
namespace Go.Proofs.Ytdapapnkmicklaa
open Go.RowKit Go.Maps
attribute [local go_sem] Oper.semAt_some
/-- An act, as a value's parts. -/
structure ActW where
  k : Int
  s : Bs
  lo : Option Addr
  ln : Nat
  lc : Nat
  L : List Bs
  f0 : Int
  f1 : Int
  f2 : Int
def ActsW (w : World) (b off : Nat) (Y : List ActW) : Prop := ∀ j (h : j < Y.length), (w.cell? ⟨b, off + j * 6, none⟩ = some (.int .i64 Y[j].k) ∧ w.cell? ⟨b, off + j * 6 + 1, none⟩ = some (.string (str Y[j].s)) ∧ w.cell? ⟨b, off + j * 6 + 2, none⟩ = some (.slice Y[j].lo Y[j].ln Y[j].lc) ∧ w.cell? ⟨b, off + j * 6 + 3, none⟩ = some (.int .i64 Y[j].f0) ∧ w.cell? ⟨b, off + j * 6 + 4, none⟩ = some (.int .i64 Y[j].f1) ∧ w.cell? ⟨b, off + j * 6 + 5, none⟩ = some (.int .i64 Y[j].f2)) ∧ TxS w (.slice Y[j].lo Y[j].ln Y[j].lc) Y[j].L ∧ Y[j].s.length ≤ 140737488351232
theorem p_first {w wx : World} {n0 q : Nat} (h1 : Lg wx n0 q n0 [] (.slice none 0 0) []) (h2 : DkAt wx n0 n0 wk1) (h3 : Below n0 w wx) (h4 : n0 ≤ wx.heap.size) : PL w n0 0 wx q (.slice none 0 0) [] [] wk1 := by
  have hc := cl0.anew (A := dk0) (M := 1000000) (F := frs [[]]) (Nat.le_trans frs0 (by decide))
  refine ⟨h1, h2, ?_, hc.2, Nat.le_refl _, Nat.le_refl _, fun x hx => (by cases hx), by decide, h3, h4⟩
  have h5 := hc.1
  exact ⟨h5.loose, h5.dead, h5.sort, h5.fit.mono (by decide), h5.len, h5.n, h5.plan⟩
theorem str_neW (a : Bs) : ((str a).toList == (str a).toList) = true := by rw [str_eqB]; simp
/-- An act's box is no block that a log writes. -/
theorem act_no {W : World} {n0 q p ab : Nat} {snap : Bs} {rv : Value} {R : List Bs} {cs : Array Value} (h : W.heap[ab]? = some (.cells cs 47 (0, 0))) (hl : Lg W n0 q p snap rv R) : ((n0 ≤ ab ∧ DkB W ab) ∨ ab = q ∨ rv.ownBlock = some ab) → False := by
  rintro (⟨_, ⟨es, c, hm⟩ | ⟨c, t, f, hm, ht⟩⟩ | rfl | hr)
  · rw [h] at hm; cases hm
  · rw [h] at hm
    cases hm
    rcases ht with ht | ht <;> exact absurd ht (by decide)
  · rw [hl.blk] at h
    cases h
  · obtain ⟨_, c, f, hb⟩ := hl.row.tag hr
    rw [h] at hb
    cases hb
set_option maxRecDepth 100000 in
set_option maxHeartbeats 4000000 in
theorem plays_any {w : World} {ao : Option Addr} {cap : Nat} {Y : List ActW} (hY : 0 < Y.length → ∃ b off, ao = some ⟨b, off, none⟩ ∧ ActsW w b off Y) : Calls Try.prog 4 #[.slice ao Y.length cap] w fun r w' => r = .returned (.bool true) ∧ Below w.heap.size w w' := by
  have hN := new_any w
  have HY : Hid (0 < Y.length → ∃ b off, ao = some ⟨b, off, none⟩ ∧ ActsW w b off Y) := hY
  obtain ⟨n0, hn0⟩ : ∃ n0, w.heap.size = n0 := ⟨_, rfl⟩
  rw [hn0] at hN ⊢
  have HO1 : Hid (∀ W, DkAt W n0 n0 dk0 → n0 ≤ W.heap.size → Calls Try.prog 12 #[.pointer (some ⟨n0, 0, none⟩)] W fun r w' => ∃ q, r = .returned (.tuple #[.pointer (some ⟨q, 0, none⟩), .int .i64 0, .int .i64 0]) ∧ W.heap.size ≤ q ∧ Lg w' n0 q n0 [] (.slice none 0 0) [] ∧ DkAt w' n0 n0 wk1 ∧ FrD n0 W w') := fun W h hB => open_first h hB
  have HNw : Hid (w.heap.size = n0) := hn0
  obtain ⟨y0, hy0⟩ : ∃ y0, Y.length = y0 := ⟨_, rfl⟩
  have HY0 : Hid (Y.length = y0) := hy0
  rw [hy0]
  clear hY hn0 hy0
  go_enter Try.func4, Try.ntmps4
  go_wp2_with (first
    | (go_at_call 8; refine hN.mono ?_; rintro r w1 ⟨rfl, hD, hb1⟩; have HD1 : Hid (DkAt w1 n0 n0 dk0) := ⟨_, _, _, hD⟩; have HB1 : Hid (Below n0 w w1) := hb1; have HS1 : Hid (n0 ≤ w1.heap.size) := (by have := hb1.size; have := HNw.out; show _ ≤ _; omega); clear hD hb1)
    | (go_at_call 12; refine (HO1.out _ HD1.out HS1.out).mono ?_; rintro r w2 ⟨q, rfl, _, hL, hD, hF⟩; have HP2 : Hid (PL w n0 0 w2 q (.slice none 0 0) [] [] wk1) := p_first hL hD (HB1.out.trans (FrD.below hF HS1.out)) (Nat.le_trans HS1.out hF.size); clear hD hL hF)
    | (go_at_call 13; refine (awake12 _).mono ?_; rintro r w3 ⟨rfl, hb⟩; have HP3 : Hid (PL w n0 0 w3 q (.slice none 0 0) [] [] wk1) := HP2.out.new hb; clear hb))
  have HP4 : Hid (PL w n0 0 (w3.alloc (.cells #[] 9)) q (.slice none 0 0) [] [] wk1) := HP3.out.new (one_newD _ _)
  have HA4 : Hid (PA2 n0 (w3.alloc (.cells #[] 9)) (.slice none 0 0) (.slice (some ⟨w3.heap.size, 0, none⟩) 0 0) []) := ⟨(tx_empty w3).low HP3.out.low, fun j hj => by cases hj⟩
  go_loopw [4, 5, 6, 7, 8, 9, 10] (fun s4 _ _ s7 s8 i _ wr => ∃ (k q : Nat) (snap : Bs) (oo : Option Addr) (m c : Nat), i = .int .i64 k ∧ k ≤ y0 ∧ k ≤ 30 ∧ s4 = .pointer (some ⟨q, 0, none⟩) ∧ s7 = .string (str snap) ∧ s8 = .slice oo m c ∧ Hid (∃ rv R A, PL w n0 k wr q rv snap R A ∧ PA2 n0 wr rv (.slice oo m c) R)) (fun _ _ _ _ _ i _ _ => y0 - (intOf i).toNat)
  case atStart => exact ⟨0, q, [], _, _, _, rfl, Nat.zero_le _, Nat.zero_le _, rfl, rfl, rfl, ⟨_, _, _, HP4.out, HA4.out⟩⟩
  case round =>
    obtain ⟨k, q, snap, oo, m, c, rfl, hk, hk30, rfl, rfl, rfl, HX⟩ := hrel
    by_cases hlt : k < y0 ∧ k < 30
    · obtain ⟨hl1, hl2⟩ := hlt
      obtain ⟨rv, R, A, hP, hA⟩ := HX.out
      have HP : Hid (PL w n0 k wr q rv snap R A) := hP
      have HA : Hid (PA2 n0 wr rv (.slice oo m c) R) := hA
      have hm : m = R.length := by
        obtain ⟨_, _, e⟩ := hA.all.shape
        cases e
        rfl
      subst hm
      have hkl : k < Y.length := by have := HY0.out; omega
      obtain ⟨b, off, rfl, hcs⟩ := HY.out (by omega)
      obtain ⟨⟨z0, z1, z2, z3, z4, z5⟩, hTx, hsn⟩ := hcs k hkl
      have kc : ∀ (oo : Nat) (uu : Value), w.cell? ⟨b, oo, none⟩ = some uu → wr.cell? ⟨b, oo, none⟩ = some uu := fun oo uu h => (hP.bel.cell (p := ⟨b, oo, none⟩) (by have := lt_cellD h; have := HNw.out; show b < n0; omega)).trans h
      replace z0 := kc _ _ z0
      replace z1 := kc _ _ z1
      replace z2 := kc _ _ z2
      replace z3 := kc _ _ z3
      replace z4 := kc _ _ z4
      replace z5 := kc _ _ z5
      have HTx : Hid (∀ W, Below n0 w W → TxS W (.slice Y[k].lo Y[k].ln Y[k].lc) Y[k].L) := fun W hW => hTx.new (by rw [HNw.out]; exact hW)
      have HSn : Hid (Y[k].s.length ≤ 140737488351232) := hsn
      have HL1 : Hid (k < y0) := hl1
      have HL2 : Hid (k < 30) := hl2
      clear hcs hP hA kc hTx hsn HX
      generalize Y[k] = y at z0 z1 z2 z3 z4 z5 HTx HSn
      clear hkl
      go_upto_region 10 with (fail)
      generalize hW : World.alloc _ _ = W
      have HQ1 : Hid (W.heap[wr.heap.size]? = some (.cells #[.int .i64 y.k, .string (str y.s), .slice y.lo y.ln y.lc, .int .i64 y.f0, .int .i64 y.f1, .int .i64 y.f2] 47 (0, 0))) := by
        show _ = _
        rw [← hW]
        exact heap_alloc_new _ _
      have hbW : Below wr.heap.size wr W := by rw [← hW]; exact one_newD _ _
      have HP1 : Hid (PL w n0 k W q rv snap R A) := HP.out.new hbW
      have HA1 : Hid (PA2 n0 W rv (.slice oo R.length c) R) := HA.out.new hbW
      have HR9 : Hid (R.length + (cutT y.L).length ≤ 2000000000) := by
        have h1 := HP.out.len
        have h2 := cutT_len y.L
        have h3 := HL2.out
        show _ ≤ _
        omega
      have HCut : Hid (∀ V, Below n0 w V → Calls Try.prog 15 #[.slice y.lo y.ln y.lc] V fun r w' => ∃ v', r = .returned v' ∧ TxO w' V.heap.size v' (cutT y.L) ∧ Below V.heap.size V w') := fun V hV => cut_any (HTx.out V hV)
      clear hW hbW HP HA z0 z1 z2 z3 z4 z5 HTx
      generalize wr.heap.size = ab at HQ1 ⊢
      obtain ⟨yk, ys, lo, ln, lc, yL, yf0, yf1, yf2⟩ := y
      simp only at HQ1 HCut HSn HR9 ⊢
      have d0 : W.cell? ⟨ab, 0, none⟩ = some (.int .i64 yk) := cell_blk (i := 0) HQ1.out
      have d1 : W.cell? ⟨ab, 1, none⟩ = some (.string (str ys)) := cell_blk (i := 1) HQ1.out
      have d2 : W.cell? ⟨ab, 2, none⟩ = some (.slice lo ln lc) := cell_blk (i := 2) HQ1.out
      have d4 : W.cell? ⟨ab, 4, none⟩ = some (.int .i64 yf1) := cell_blk (i := 4) HQ1.out
      have d5 : W.cell? ⟨ab, 5, none⟩ = some (.int .i64 yf2) := cell_blk (i := 5) HQ1.out
      go_upto_block 2 with (fail)
      go_cut [4, 5, 6, 7, 8] (fun s4 _ _ s7 s8 wx => ∃ (q : Nat) (snap : Bs) (oo : Option Addr) (m c : Nat), s4 = .pointer (some ⟨q, 0, none⟩) ∧ s7 = .string (str snap) ∧ s8 = .slice oo m c ∧ ∃ rv R A, PL w n0 (k + 1) wx q rv snap R A ∧ PA2 n0 wx rv (.slice oo m c) R)
      case first =>
        by_cases h3 : yk = 3
        · subst h3
          have hP0 := HP1.out
          go_upto_region 15 with (fail)
          have e1 := d1
          have e2 := d2
          have bd : Below W.heap.size W W.drew := Below.drew (Below.refl _ _)
          obtain ⟨Wd, hWd⟩ : ∃ Wd, W.drew = Wd := ⟨_, rfl⟩
          rw [hWd] at bd
          have HBdWd : Hid (Below W.heap.size W Wd) := bd
          have hS : (fun w' : World => w'.cell? ⟨ab, 1, none⟩ = some (.string (str ys)) ∧ w'.cell? ⟨ab, 2, none⟩ = some (.slice lo ln lc)) Wd := ⟨(bd.cell (p := ⟨ab, 1, none⟩) (lt_cellD e1)).trans e1, (bd.cell (p := ⟨ab, 2, none⟩) (lt_cellD e2)).trans e2⟩
          have HSWd : Hid (Wd.cell? ⟨ab, 1, none⟩ = some (.string (str ys)) ∧ Wd.cell? ⟨ab, 2, none⟩ = some (.slice lo ln lc)) := hS
          clear bd
          refine wp_calmD ?_
          refine wp_region_L [6] (fun w' : World => w'.cell? ⟨ab, 1, none⟩ = some (.string (str ys)) ∧ w'.cell? ⟨ab, 2, none⟩ = some (.slice lo ln lc)) (by kernel_rfl) ?_
          rw [hWd]
          clear hWd
          refine wpAnyL_take (i := 0) 62 (v := .pointer (some ⟨q, 0, none⟩)) rfl rfl (by kernel_rfl) (by kernel_rfl) (by kernel_rfl) (by kernel_rfl) (by kernel_rfl) (by kernel_rfl) (fun _ _ _ h => h) hS (by rfl) (by intro w' hSw; obtain ⟨y1, y2⟩ := hSw; go_simp <;> with_reducible rfl) ?_
          simp only [Act.put, List.setIfInBounds_toArray, List.set_cons_zero, List.set_cons_succ]
          refine wpAnyL_take (i := 1) 63 (v := .pointer (some ⟨ab, 1, none⟩)) rfl rfl (by kernel_rfl) (by kernel_rfl) (by kernel_rfl) (by kernel_rfl) (by kernel_rfl) (by kernel_rfl) (fun _ _ _ h => h) hS (by rfl) (by intro w' hSw; obtain ⟨y1, y2⟩ := hSw; go_simp <;> with_reducible rfl) ?_
          simp only [Act.put, List.setIfInBounds_toArray, List.set_cons_zero, List.set_cons_succ]
          refine wpAnyL_take (i := 2) 64 (v := .string (str ys)) rfl rfl (by kernel_rfl) (by kernel_rfl) (by kernel_rfl) (by kernel_rfl) (by kernel_rfl) (by kernel_rfl) (fun _ _ _ h => h) hS (by rfl) (by intro w' hSw; obtain ⟨y1, y2⟩ := hSw; go_simp <;> with_reducible rfl) ?_
          simp only [Act.put, List.setIfInBounds_toArray, List.set_cons_zero, List.set_cons_succ]
          refine wpAnyL_take (i := 3) 65 (v := .pointer (some ⟨ab, 2, none⟩)) rfl rfl (by kernel_rfl) (by kernel_rfl) (by kernel_rfl) (by kernel_rfl) (by kernel_rfl) (by kernel_rfl) (fun _ _ _ h => h) hS (by rfl) (by intro w' hSw; obtain ⟨y1, y2⟩ := hSw; go_simp <;> with_reducible rfl) ?_
          simp only [Act.put, List.setIfInBounds_toArray, List.set_cons_zero, List.set_cons_succ]
          refine wpAnyL_take (i := 4) 66 (v := .slice lo ln lc) rfl rfl (by kernel_rfl) (by kernel_rfl) (by kernel_rfl) (by kernel_rfl) (by kernel_rfl) (by kernel_rfl) (fun _ _ _ h => h) hS (by rfl) (by intro w' hSw; obtain ⟨y1, y2⟩ := hSw; go_simp <;> with_reducible rfl) ?_
          simp only [Act.put, List.setIfInBounds_toArray, List.set_cons_zero, List.set_cons_succ]
          refine wpAnyL_one (i := 5) (by kernel_rfl) rfl (fun Ka hKa => ?_)
          go_simp
          refine (HCut.out _ (HP1.out.new HBdWd.out).bel).mono ?_
          rintro r w5 ⟨v5, rfl, ho, hb⟩
          obtain ⟨a5, c5, rfl⟩ := ho.shape
          have HO5 : Hid (TxO w5 0 (.slice a5 (cutT yL).length c5) (cutT yL)) := ho.low (Nat.zero_le _)
          have HP5 : Hid (PL w n0 k w5 q rv snap R A) := (HP1.out.new HBdWd.out).new hb
          have HQ5 : Hid (w5.heap[ab]? = some (.cells #[.int .i64 3, .string (str ys), .slice lo ln lc, .int .i64 yf0, .int .i64 yf1, .int .i64 yf2] 47 (0, 0))) := by
            have h1 := (HBdWd.out.block ab (lt_blk HQ1.out)).trans HQ1.out
            exact (hb.block ab (lt_blk h1)).trans h1
          have hS5 : (fun w' : World => w'.cell? ⟨ab, 1, none⟩ = some (.string (str ys)) ∧ w'.cell? ⟨ab, 2, none⟩ = some (.slice lo ln lc)) w5 := ⟨cell_blk (i := 1) HQ5.out, cell_blk (i := 2) HQ5.out⟩
          refine hKa.out _ _ (fun _ => hS5) ?_
          clear hKa Ka ho hb hS hS5 HSWd
          try simp only [Act.put, List.setIfInBounds_toArray, List.set_cons_zero, List.set_cons_succ]
          refine wpAnyL_one (i := 6) (by kernel_rfl) rfl (fun Ka hKa => ?_)
          go_simp
          refine (p_reset HP5.out (Nat.le_of_lt HL2.out) HO5.out HSn.out).mono ?_
          rintro r w6 ⟨rfl, rv6, A6, hP6, hF6⟩
          have HP6 : Hid (PL w n0 (k + 1) w6 q rv6 ys (cutT yL) A6) := hP6
          have e6 : w6.heap[ab]? = _ := (hF6.block ab (lt_blk HQ5.out) (fun s => act_no HQ5.out HP5.out.lg (s.imp_right .inl))).trans HQ5.out
          have HQ6 : Hid (w6.heap[ab]? = some (.cells #[.int .i64 3, .string (str ys), .slice lo ln lc, .int .i64 yf0, .int .i64 yf1, .int .i64 yf2] 47 (0, 0))) := e6
          refine hKa.out _ _ (fun h => absurd h (Bool.eq_false_iff.1 (by kernel_rfl))) ?_
          clear hKa Ka hP6 hF6 e6
          try simp only [Act.put, List.setIfInBounds_toArray, List.set_cons_zero, List.set_cons_succ]
          refine wpAnyL_one (i := 7) (by kernel_rfl) rfl (fun Ka hKa => ?_)
          go_simp
          refine hKa.out _ _ (fun h => absurd h (Bool.eq_false_iff.1 (by kernel_rfl))) ?_
          clear hKa Ka
          try simp only [Act.put, List.setIfInBounds_toArray, List.set_cons_zero, List.set_cons_succ]
          refine wpAnyL_done (by kernel_rfl) ?_ _
          go_upto_region 17 with (fail)
          have e1 := cell_blk (i := 1) HQ6.out
          have e2 := cell_blk (i := 2) HQ6.out
          simp only [List.getElem?_toArray, List.getElem?_cons_succ, List.getElem?_cons_zero] at e1 e2
          have bd : Below w6.heap.size w6 w6.drew := Below.drew (Below.refl _ _)
          obtain ⟨Wf, hWd⟩ : ∃ Wf, w6.drew = Wf := ⟨_, rfl⟩
          rw [hWd] at bd
          have HBdWf : Hid (Below w6.heap.size w6 Wf) := bd
          have hS : (fun w' : World => w'.cell? ⟨ab, 1, none⟩ = some (.string (str ys)) ∧ w'.cell? ⟨ab, 2, none⟩ = some (.slice lo ln lc)) Wf := ⟨(bd.cell (p := ⟨ab, 1, none⟩) (lt_cellD e1)).trans e1, (bd.cell (p := ⟨ab, 2, none⟩) (lt_cellD e2)).trans e2⟩
          have HSWf : Hid (Wf.cell? ⟨ab, 1, none⟩ = some (.string (str ys)) ∧ Wf.cell? ⟨ab, 2, none⟩ = some (.slice lo ln lc)) := hS
          clear bd
          refine wp_calmD ?_
          refine wp_region_L [] (fun w' : World => w'.cell? ⟨ab, 1, none⟩ = some (.string (str ys)) ∧ w'.cell? ⟨ab, 2, none⟩ = some (.slice lo ln lc)) (by kernel_rfl) ?_
          rw [hWd]
          clear hWd
          refine wpAnyL_take (i := 0) 70 (v := .pointer (some ⟨ab, 1, none⟩)) rfl rfl (by kernel_rfl) (by kernel_rfl) (by kernel_rfl) (by kernel_rfl) (by kernel_rfl) (by kernel_rfl) (fun _ _ _ h => h) hS (by rfl) (by intro w' hSw; obtain ⟨y1, y2⟩ := hSw; go_simp <;> with_reducible rfl) ?_
          simp only [Act.put, List.setIfInBounds_toArray, List.set_cons_zero, List.set_cons_succ]
          refine wpAnyL_take (i := 1) 71 (v := .string (str ys)) rfl rfl (by kernel_rfl) (by kernel_rfl) (by kernel_rfl) (by kernel_rfl) (by kernel_rfl) (by kernel_rfl) (fun _ _ _ h => h) hS (by rfl) (by intro w' hSw; obtain ⟨y1, y2⟩ := hSw; go_simp <;> with_reducible rfl) ?_
          simp only [Act.put, List.setIfInBounds_toArray, List.set_cons_zero, List.set_cons_succ]
          refine wpAnyL_take (i := 2) 72 (v := .pointer (some ⟨ab, 2, none⟩)) rfl rfl (by kernel_rfl) (by kernel_rfl) (by kernel_rfl) (by kernel_rfl) (by kernel_rfl) (by kernel_rfl) (fun _ _ _ h => h) hS (by rfl) (by intro w' hSw; obtain ⟨y1, y2⟩ := hSw; go_simp <;> with_reducible rfl) ?_
          simp only [Act.put, List.setIfInBounds_toArray, List.set_cons_zero, List.set_cons_succ]
          refine wpAnyL_take (i := 3) 73 (v := .slice lo ln lc) rfl rfl (by kernel_rfl) (by kernel_rfl) (by kernel_rfl) (by kernel_rfl) (by kernel_rfl) (by kernel_rfl) (fun _ _ _ h => h) hS (by rfl) (by intro w' hSw; obtain ⟨y1, y2⟩ := hSw; go_simp <;> with_reducible rfl) ?_
          simp only [Act.put, List.setIfInBounds_toArray, List.set_cons_zero, List.set_cons_succ]
          refine wpAnyL_one (i := 4) (by kernel_rfl) rfl (fun Ka hKa => ?_)
          go_simp
          refine (HCut.out _ (HP6.out.new HBdWf.out).bel).mono ?_
          rintro r w7 ⟨v7, rfl, ho, hb⟩
          obtain ⟨a7, c7, rfl⟩ := ho.shape
          have HA7 : Hid (PA2 n0 w7 rv6 (.slice a7 (cutT yL).length c7) (cutT yL)) := ⟨ho.low (HP6.out.new HBdWf.out).low, fun j hj e => by
            have h1 := (ho.tag e).1
            have h2 := (HP6.out.new HBdWf.out).lg.row.lt hj
            omega⟩
          have HP7 : Hid (PL w n0 (k + 1) w7 q rv6 ys (cutT yL) A6) := (HP6.out.new HBdWf.out).new hb
          have hS7 : (fun w' : World => w'.cell? ⟨ab, 1, none⟩ = some (.string (str ys)) ∧ w'.cell? ⟨ab, 2, none⟩ = some (.slice lo ln lc)) w7 := ⟨(hb.cell (p := ⟨ab, 1, none⟩) (lt_cellD HSWf.out.1)).trans HSWf.out.1, (hb.cell (p := ⟨ab, 2, none⟩) (lt_cellD HSWf.out.2)).trans HSWf.out.2⟩
          have HS7 : Hid _ := hS7
          refine hKa.out _ _ (fun _ => hS7) ?_
          clear hKa Ka ho hb hS
          try simp only [Act.put, List.setIfInBounds_toArray, List.set_cons_zero, List.set_cons_succ]
          refine wpAnyL_one (i := 5) (by kernel_rfl) rfl (fun Ka hKa => ?_)
          go_simp
          refine hKa.out _ _ (fun _ => hS7) ?_
          clear hKa Ka
          try simp only [Act.put, List.setIfInBounds_toArray, List.set_cons_zero, List.set_cons_succ]
          refine wpAnyL_one (i := 6) (by kernel_rfl) rfl (fun Ka hKa => ?_)
          go_simp
          refine hKa.out _ _ (fun _ => hS7) ?_
          clear hKa Ka hS7
          try simp only [Act.put, List.setIfInBounds_toArray, List.set_cons_zero, List.set_cons_succ]
          refine wpAnyL_done (by kernel_rfl) ?_ _
          go_wp2
          go_meet
          exact ⟨q, ys, _, _, _, rfl, rfl, rfl, rv6, _, A6, HP7.out, HA7.out⟩
        · by_cases h4 : yk = 4
          · subst h4
            go_wp2_with (go_at_call 12; refine (p_open HP1.out HA1.out (Nat.le_succ_of_le (Nat.le_of_lt HL2.out))).mono ?_; rintro r w8 ⟨q8, rv8, rfl, hP, hA⟩; have HP8 : Hid (PL w n0 k w8 q8 rv8 snap R A) := hP; have HA8 : Hid (PA2 n0 w8 rv8 (.slice oo R.length c) R) := hA; clear hP hA)
            go_meet
            exact ⟨q8, snap, _, _, _, rfl, rfl, rfl, rv8, R, A, HP8.out.more, HA8.out⟩
          · by_cases h5 : yk = 5
            · subst h5
              go_wp2_with (first
                | (go_at_call 16; refine (p_crash HP1.out HA1.out (Nat.le_succ_of_le (Nat.le_of_lt HL2.out)) _ _).mono ?_; rintro r w6 ⟨rfl, hX, hL, hA⟩; have HX6 : Hid (PX w n0 k w6 snap R A yf1 yf2) := hX; have HG6 : Hid (Lg w6 n0 q n0 snap rv R) := hL; have HA6 : Hid (PA2 n0 w6 rv (.slice oo R.length c) R) := hA; clear hX hL hA)
                | (go_at_call 17; refine (p_up HP1.out HX6.out HG6.out HA6.out).mono ?_; rintro r w7 ⟨rfl, hP, hA⟩; have HP7 : Hid (PL w n0 k w7 q rv snap R A) := hP; have HA7 : Hid (PA2 n0 w7 rv (.slice oo R.length c) R) := hA; clear hP hA)
                | (go_at_call 12; refine (p_open HP7.out HA7.out (Nat.le_succ_of_le (Nat.le_of_lt HL2.out))).mono ?_; rintro r w8 ⟨q8, rv8, rfl, hP, hA⟩; have HP8 : Hid (PL w n0 k w8 q8 rv8 snap R A) := hP; have HA8 : Hid (PA2 n0 w8 rv8 (.slice oo R.length c) R) := hA; clear hP hA))
              go_meet
              exact ⟨q8, snap, _, _, _, rfl, rfl, rfl, rv8, R, A, HP8.out.more, HA8.out⟩
            · have h3b : (yk == 3) = false := by simpa using h3
              have h4b : (yk == 4) = false := by simpa using h4
              have h5b : (yk == 5) = false := by simpa using h5
              have t1 : True := trivial
              go_wp2_with (first
                | (go_at_call 15; have _t := t1; clear t1; refine (HCut.out _ HP1.out.bel).mono ?_; rintro r w5 ⟨v5, rfl, ho, hb⟩; obtain ⟨a5, c5, rfl⟩ := ho.shape; have HO5 : Hid (TxO w5 0 (.slice a5 (cutT yL).length c5) (cutT yL)) := ho.low (Nat.zero_le _); have HP5 : Hid (PL w n0 k w5 q rv snap R A) := HP1.out.new hb; have HA5 : Hid (PA2 n0 w5 rv (.slice oo R.length c) R) := HA1.out.new hb; have HQ5 : Hid (w5.heap[ab]? = some (.cells #[.int .i64 yk, .string (str ys), .slice lo ln lc, .int .i64 yf0, .int .i64 yf1, .int .i64 yf2] 47 (0, 0))) := (hb.block ab (lt_blk HQ1.out)).trans HQ1.out; clear ho hb)
                | (go_at_call 18; refine (p_add HP5.out HA5.out (Nat.le_of_lt HL2.out) HO5.out).mono ?_; rintro r w6 ⟨rfl, rv6, A6, hP6, hT6, hp6, hF6⟩; have HP6 : Hid (PL w n0 (k + 1) w6 q rv6 snap (R ++ cutT yL) A6) := hP6; have HT6 : Hid (TxO w6 n0 (.slice oo R.length c) R) := hT6; have HK6 : Hid (∀ j, rv6.ownBlock = some j → (Value.slice oo R.length c).ownBlock ≠ some j) := hp6; have e6 : w6.heap[ab]? = _ := (hF6.block ab (lt_blk HQ5.out) (fun s => act_no HQ5.out HP5.out.lg s)).trans HQ5.out; have e2 : w6.cell? ⟨ab, 2, none⟩ = some (.slice lo ln lc) := cell_blk (i := 2) e6; clear e6 hP6 hT6 hp6 hF6)
                | (go_at_call 15; refine (HCut.out _ HP6.out.bel).mono ?_; rintro r w7 ⟨v7, rfl, ho, hb⟩; obtain ⟨a7, c7, rfl⟩ := ho.shape; have HO7 : Hid (TxO w7 w6.heap.size (.slice a7 (cutT yL).length c7) (cutT yL)) := ho; have HP7 : Hid (PL w n0 (k + 1) w7 q rv6 snap (R ++ cutT yL) A6) := HP6.out.new hb; have HT7 : Hid (TxO w7 n0 (.slice oo R.length c) R) := HT6.out.new hb; clear ho hb)
                | (at_builtin; refine wpl_appT rfl rfl rfl rfl HT7.out HO7.out.toS HR9.out HP7.out.low ?_; intro v8 w8 o8 f8 b8; have HX8 : Hid (PL w n0 (k + 1) w8 q rv6 snap (R ++ cutT yL) A6 ∧ PA2 n0 w8 rv6 v8 (R ++ cutT yL)) := p_app HP7.out HT7.out HK6.out o8 f8 b8; obtain ⟨a8, c8, rfl⟩ := o8.shape; clear o8 f8 b8))
              go_meet
              exact ⟨q, snap, _, _, _, rfl, rfl, rfl, rv6, _, A6, HX8.out.1, by simpa using HX8.out.2⟩
      case rest =>
        obtain ⟨q9, sn9, o9, m9, c9, rfl, rfl, rfl, rv9, R9, A9, hP9, hA9⟩ := hcut
        have HP9 : Hid (PL w n0 (k + 1) wc q9 rv9 sn9 R9 A9) := hP9
        have HA9 : Hid (PA2 n0 wc rv9 (.slice o9 m9 c9) R9) := hA9
        have hm9 : m9 = R9.length := by
          obtain ⟨_, _, e⟩ := hA9.all.shape
          cases e
          rfl
        have HN9 : Hid (R9.length ≤ 1000000) := by
          have h1 := hP9.len
          have h2 := HL2.out
          show _ ≤ _
          omega
        subst hm9
        clear hP9 hA9 HP1 HA1 HQ1 HCut HSn HR9 d0 d1 d2 d4 d5
        have heq := str_neW sn9
        go_wp2_with (first
          | (go_at_call 19; refine (snap_any HP9.out.lg).mono ?_; rintro r w12 ⟨rfl, hw⟩; rw [hw]; clear hw)
          | (go_at_call 20; refine (len_any HP9.out.lg).mono ?_; rintro r w12 ⟨rfl, hw⟩; rw [hw]; clear hw)
          | (go_at_call 22; refine (all_any HP9.out.lg HN9.out).mono ?_; rintro r w13 ⟨v13, rfl, ho, hb⟩; obtain ⟨a13, c13, rfl⟩ := ho.shape; have HO13 : Hid (TxO w13 wc.heap.size (.slice a13 R9.length c13) R9) := ho; have HP13 : Hid (PL w n0 (k + 1) w13 q9 rv9 sn9 R9 A9) := HP9.out.new hb; have HA13 : Hid (PA2 n0 w13 rv9 (.slice o9 R9.length c9) R9) := HA9.out.new hb; clear ho hb)
          | (go_at_call 21; refine (same_any HO13.out.toS HA13.out.all.toS HN9.out).mono ?_; rintro r w14 ⟨rfl, hb⟩; have HP14 : Hid (PL w n0 (k + 1) w14 q9 rv9 sn9 R9 A9) := HP13.out.new hb; have HA14 : Hid (PA2 n0 w14 rv9 (.slice o9 R9.length c9) R9) := HA13.out.new hb; clear hb))
        go_roundw
        case rel => exact ⟨k + 1, q9, sn9, _, _, _, by go_num, HL1.out, HL2.out, rfl, rfl, rfl, ⟨rv9, R9, A9, HP14.out, HA14.out⟩⟩
        case measure => have := HL1.out; simp [intOf]; omega
    · obtain ⟨rv, R, A, hP, hA⟩ := HX.out
      have HBe : Hid (Below n0 w wr) := hP.bel
      clear hP hA
      by_cases h1 : k < y0
      · have h2 : ¬ (k : Int) < 30 := by omega
        go_wp2
        go_ret
        exact ⟨rfl, HBe.out⟩
      · go_wp2
        go_ret
        exact ⟨rfl, HBe.out⟩
end Go.Proofs.Ytdapapnkmicklaa
end
