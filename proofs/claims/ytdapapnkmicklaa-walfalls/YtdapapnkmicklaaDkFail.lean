/- The power fails: a beginning of what is loose survives. -/
import Derived.Test.YtdapapnkmicklaaDkTorn
namespace Go.Proofs.Ytdapapnkmicklaa
open Go.RowKit Go.Maps
attribute [local go_sem] Oper.semAt_some
def cutN (keep : Int) (n : Nat) : Nat := (min (max keep 0) (n : Int)).toNat
theorem cutN_le (keep : Int) (n : Nat) : cutN keep n ≤ n := by unfold cutN; omega
theorem cutN_is (keep : Int) (n : Nat) : min (max keep 0) (n : Int) = ((cutN keep n : Nat) : Int) := by unfold cutN; omega
def tornC (c : Chg) (t : Int) : Chg := ⟨c.k, c.nm, c.to, c.s.take t.toNat⟩
/-- What is sure behind a fall. -/
def failF (l : Fl) (L : List Chg) (keep torn : Int) : Fl :=
  if h : cutN keep L.length < L.length then
    if 0 < torn ∧ (L[cutN keep L.length].k = 0 ∨ L[cutN keep L.length].k = 1) then doF (doneF l (L.take (cutN keep L.length))) (tornC L[cutN keep L.length] torn) else doneF l (L.take (cutN keep L.length))
  else doneF l (L.take (cutN keep L.length))
def Dk.fail (A : Dk) (keep torn : Int) : Dk := ⟨failF A.sure A.loose keep torn, [], A.n, true, A.pv⟩
/-- All bytes of changes. -/
def sz (L : List Chg) : Nat := (L.map (·.s.length)).sum
theorem FitF.doneF {M : Nat} {l : Fl} (h : FitF M l) (L : List Chg) : FitF (M + sz L) (doneF l L) := by
  induction L generalizing l M with
  | nil => exact h
  | cons c r ih =>
    have := ih (h.doF c)
    show FitF _ (Go.Proofs.Ytdapapnkmicklaa.doneF (Go.Proofs.Ytdapapnkmicklaa.doF l c) r)
    have e : M + sz (c :: r) = M + c.s.length + sz r := by simp [sz]; omega
    rw [e]
    exact this
theorem sz_take (L : List Chg) (k : Nat) (h : k < L.length) : sz (L.take k) + L[k].s.length ≤ sz L := by
  induction L generalizing k with
  | nil => simp at h
  | cons c r ih =>
    cases k with
    | zero => simp [sz]
    | succ k =>
      have := ih k (by simpa using h)
      simp only [sz, List.take_succ_cons, List.map_cons, List.sum_cons, List.getElem_cons_succ] at *
      omega
theorem sz_snoc (L : List Chg) (c : Chg) : sz (L ++ [c]) = sz L + c.s.length := by simp [sz]
/-- Sizes of a disk. -/
structure BdA (A : Dk) (M : Nat) : Prop where
  fit : FitF M A.sure
  sum : M + sz A.loose ≤ 4611686018427387904
  len : A.sure.length + A.loose.length ≤ 1000000
  n : A.n ≤ 1000000
theorem BdA.at {A : Dk} {M : Nat} (h : BdA A M) (k : Nat) (hk : k < A.loose.length) : (doneF A.sure (A.loose.take k)).length < maxLen ∧ (ofF A.loose[k].nm (doneF A.sure (A.loose.take k))).length + A.loose[k].s.length ≤ maxLen := by
  have h1 := len_doneF (A.loose.take k) A.sure
  have h2 := (h.fit.doneF (A.loose.take k)).of A.loose[k].nm
  have h3 := sz_take A.loose k hk
  have h4 := h.len
  have h5 := h.sum
  rw [List.length_take] at h1
  unfold maxLen
  refine ⟨by omega, by omega⟩
theorem BdA.toBd {A : Dk} {M : Nat} (h : BdA A M) (c : Chg) (hc : c.s.length ≤ 4611686018427387903) (hl : A.loose.length ≤ 1000000) : Bd A c := by
  have h1 := len_doneF A.loose A.sure
  have h2 := (h.fit.doneF A.loose).of c.nm
  have h4 := h.len
  have h5 := h.sum
  have e : A.now = doneF A.sure A.loose := rfl
  rw [← e] at h1 h2
  refine ⟨by unfold maxLen; omega, by unfold maxLen; omega, h.n, hl⟩
section
variable {w : World} {B p : Nat} {A : Dk} {mn ms : Option Nat} {lv : Value}
/-- The disk behind a fall, with the map that survives and its copy. -/
theorem fail_end {V : World} {a b cn : Nat} {l : Fl} (h : DA w B p A (some a) (some b) lv) (f : Fr w V (fun k => k = b)) (hs : FMap V b l) (hcn : FMap V cn l) (hne : cn ≠ b) (hcp : w.heap.size ≤ cn) (hB : B ≤ w.heap.size) :
    DA (((V.setCell ⟨p, 0, none⟩ (.map (some cn))).setCell ⟨p, 2, none⟩ (.slice none 0 0)).setCell ⟨p, 5, none⟩ (.bool true)) B p ⟨l, [], A.n, true, A.pv⟩ (some cn) (some b) (.slice none 0 0) ∧ FrD B w (((V.setCell ⟨p, 0, none⟩ (.map (some cn))).setCell ⟨p, 2, none⟩ (.slice none 0 0)).setCell ⟨p, 5, none⟩ (.bool true)) := by
  have hpb : p ≠ b := fun e => h.pmap.2 (by rw [e])
  have hp := h.plt
  have p1 := (f.block p hp hpb).trans h.blk
  have p2 := blk_set (i := 0) (.map (some cn)) p1
  have p3 := blk_set (i := 2) (.slice none 0 0) p2
  have p4 := blk_set (i := 5) (.bool true) p3
  have fs : Fr V (((V.setCell ⟨p, 0, none⟩ (.map (some cn))).setCell ⟨p, 2, none⟩ (.slice none 0 0)).setCell ⟨p, 5, none⟩ (.bool true)) (fun k => k = p) := ((Fr.setCell (S := fun k => k = p) V ⟨p, 0, none⟩ _ rfl).trans (Fr.setCell (S := fun k => k = p) _ ⟨p, 2, none⟩ _ rfl) (fun _ _ h => h)).trans (Fr.setCell (S := fun k => k = p) _ ⟨p, 5, none⟩ _ rfl) (fun _ _ h => h)
  refine ⟨⟨p4, ?_, ?_, .inr ⟨cn, b, rfl, rfl, hne⟩, ⟨rfl, .inl ⟨rfl, rfl⟩⟩, fun c hc => (by cases hc), h.hp, fun k e => ?_, h.hs⟩, ?_⟩
  · exact hcn.same (fs.block cn hcn.lt (by omega))
  · exact hs.same (fs.block b hs.lt (fun e => hpb e.symm))
  · cases e; omega
  · have tagB : DkB w b := .inl (map_tag h.sure rfl)
    refine ⟨fs.os.trans f.os, fs.tape.trans f.tape, fs.output.trans f.output, Nat.le_trans f.size fs.size, fun k hk hn => ?_⟩
    have kb : k ≠ b := fun e => hn ⟨by rw [e]; exact h.hs b rfl, by rw [e]; exact tagB⟩
    have kp : k ≠ p := fun e => hn ⟨by rw [e]; exact h.hp, by rw [e]; exact .inr ⟨_, _, _, h.blk, .inl rfl⟩⟩
    have := f.size
    exact (fs.block k (by omega) kp).trans (f.block k hk kb)
theorem fail_none (h : DA w B p A none none lv) {V : World} (f : Below w.heap.size w V) : DA (((V.setCell ⟨p, 0, none⟩ (.map none)).setCell ⟨p, 2, none⟩ (.slice none 0 0)).setCell ⟨p, 5, none⟩ (.bool true)) B p ⟨[], [], A.n, true, A.pv⟩ none none (.slice none 0 0) ∧ FrD B w (((V.setCell ⟨p, 0, none⟩ (.map none)).setCell ⟨p, 2, none⟩ (.slice none 0 0)).setCell ⟨p, 5, none⟩ (.bool true)) := by
  have hD := h.new f
  have p2 := blk_set (i := 0) (.map none) hD.blk
  have p3 := blk_set (i := 2) (.slice none 0 0) p2
  have p4 := blk_set (i := 5) (.bool true) p3
  have fs : Fr V (((V.setCell ⟨p, 0, none⟩ (.map none)).setCell ⟨p, 2, none⟩ (.slice none 0 0)).setCell ⟨p, 5, none⟩ (.bool true)) (fun k => k = p) := ((Fr.setCell (S := fun k => k = p) V ⟨p, 0, none⟩ _ rfl).trans (Fr.setCell (S := fun k => k = p) _ ⟨p, 2, none⟩ _ rfl) (fun _ _ h => h)).trans (Fr.setCell (S := fun k => k = p) _ ⟨p, 5, none⟩ _ rfl) (fun _ _ h => h)
  exact ⟨⟨p4, rfl, rfl, .inl ⟨rfl, rfl, rfl⟩, ⟨rfl, .inl ⟨rfl, rfl⟩⟩, fun c hc => (by cases hc), h.hp, fun k e => (by cases e), fun k e => (by cases e)⟩, (FrD.new f).trans (hD.frP fs (fun _ e => e))⟩
set_option maxRecDepth 100000 in
set_option maxHeartbeats 400000 in
theorem fail_nil (h : DA w B p A none none lv) (keep tn : Int) : Calls Try.prog 46 #[.pointer (some ⟨p, 0, none⟩), .int .i64 keep, .int .i64 tn] w fun r w' => r = .returned (.tuple #[]) ∧ DkAt w' B p (A.fail keep tn) ∧ FrD B w w' := by
  have hloose : A.loose = [] := by
    rcases h.two with ⟨_, _, e⟩ | ⟨a', b', e, _⟩
    · exact e
    · cases e
  have hsure : A.sure = [] := h.sure
  have eF : A.fail keep tn = ⟨[], [], A.n, true, A.pv⟩ := by
    unfold Dk.fail failF cutN
    simp [hloose, hsure, doneF]
  have HE : Hid (A.fail keep tn = ⟨[], [], A.n, true, A.pv⟩) := eF
  have hcl := fun W => AnyW.maps_Clone_nil layMClone W
  have hcl' : ∀ W, Calls Try.prog 66 #[.map none] W fun e w' => e = .returned (.map none) ∧ w' = W := hcl
  clear hcl
  have hk : min (max keep 0) (0 : Int) = 0 := by omega
  have HN := fail_none h (V := w) (Below.refl _ _)
  have HD : Hid _ := HN
  obtain ⟨c0, c1, c2, c3, c4, c5⟩ := h.cells
  have f0 := h.free 0
  have f2 := h.free 2
  have f5 := h.free 5
  have hrow := h.row
  rw [hloose] at hrow
  clear h HN eF
  have hrow2 := hrow.2
  clear hrow
  rcases hrow2 with ⟨rfl, _⟩ | ⟨g, cap, cur, rfl, _, _, _, hcap, _⟩
  all_goals
    go_enter Try.func46, Try.ntmps46
    go_wp2
    go_loop [7, 23] (fun _ i => i = .int .i64 0) (fun _ _ => 0)
    case atStart => rfl
    case round =>
      obtain rfl := hrel
      go_wp2_with (go_at_call 66; refine (hcl' _).mono ?_; rintro r w ⟨rfl, rfl⟩)
      go_end0
      rw [HE.out]
      exact ⟨rfl, ⟨_, _, _, HD.out.1⟩, HD.out.2⟩
theorem clone_any {b : Nat} {l : Fl} (h : FMap w b l) : Calls Try.prog 66 #[.map (some b)] w fun r w' => r = .returned (.map (some w.heap.size)) ∧ FMap w' w.heap.size l ∧ FMap w' b l ∧ Below w.heap.size w w' := by
  obtain ⟨hs, D, ⟨n, h⟩, hat⟩ := h
  refine Calls.mono (AnyW.maps_Clone_owns layMClone 9 fileR b n D w h) ?_
  rintro r w' ⟨rfl, h1, h2, hb⟩
  exact ⟨rfl, ⟨hs, D, ⟨n, h1⟩, hat⟩, ⟨hs, D, ⟨n, h2⟩, hat⟩, hb⟩
/-- The last region of fail. -/
theorem fail_tail {V : World} {a b : Nat} {l : Fl} (h : DA w B p A (some a) (some b) lv) (f : Fr w V (fun k => k = b)) (hs : FMap V b l) (hB : B ≤ w.heap.size) : ∀ V', FMap V' V.heap.size l → FMap V' b l → Below V.heap.size V V' → V'.cell? ⟨p, 0, none⟩ = some (.map (some a)) ∧ V'.cell? ⟨p, 2, none⟩ = some lv ∧ V'.cell? ⟨p, 5, none⟩ = some (.bool A.dead) ∧ V'.frozen? ⟨p, 0, none⟩ = false ∧ V'.frozen? ⟨p, 2, none⟩ = false ∧ V'.frozen? ⟨p, 5, none⟩ = false ∧ DA (((V'.setCell ⟨p, 0, none⟩ (.map (some V.heap.size))).setCell ⟨p, 2, none⟩ (.slice none 0 0)).setCell ⟨p, 5, none⟩ (.bool true)) B p ⟨l, [], A.n, true, A.pv⟩ (some V.heap.size) (some b) (.slice none 0 0) ∧ FrD B w (((V'.setCell ⟨p, 0, none⟩ (.map (some V.heap.size))).setCell ⟨p, 2, none⟩ (.slice none 0 0)).setCell ⟨p, 5, none⟩ (.bool true)) := by
  intro V' h1 h2 hb
  have hpb : p ≠ b := fun e => h.pmap.2 (by rw [e])
  have f' : Fr w V' (fun k => k = b) := f.trans (Fr.ofBelow hb _) (fun _ _ h => h)
  have pb := (f'.block p h.plt hpb).trans h.blk
  have hE := fail_end h f' h2 h1 (by have := hs.lt; omega) f.size hB
  exact ⟨by simp [World.cell?, pb], by simp [World.cell?, pb], by simp [World.cell?, pb], by simp [World.frozen?, pb], by simp [World.frozen?, pb], by simp [World.frozen?, pb], hE.1, hE.2⟩
set_option maxRecDepth 100000 in
set_option maxHeartbeats 400000 in
theorem fail_empty {a b : Nat} (h : DA w B p A (some a) (some b) lv) (hB : B ≤ w.heap.size) (hloose : A.loose = []) (keep tn : Int) : Calls Try.prog 46 #[.pointer (some ⟨p, 0, none⟩), .int .i64 keep, .int .i64 tn] w fun r w' => r = .returned (.tuple #[]) ∧ DkAt w' B p (A.fail keep tn) ∧ FrD B w w' := by
  have HE : Hid (A.fail keep tn = ⟨A.sure, [], A.n, true, A.pv⟩) := by
    show _ = _
    unfold Dk.fail failF cutN
    simp [hloose, doneF]
  have hk : min (max keep 0) (0 : Int) = 0 := by omega
  have hfs : FMap w b A.sure := h.sure
  have hcl := clone_any hfs
  have HT := fail_tail h (Fr.refl w (fun k => k = b)) hfs hB
  have HD : Hid _ := HT
  obtain ⟨c0, c1, c2, c3, c4, c5⟩ := h.cells
  have hrow := h.row
  rw [hloose] at hrow
  have hrow2 := hrow.2
  clear hrow h HT hfs
  rcases hrow2 with ⟨rfl, _⟩ | ⟨g, cap, cur, rfl, _, _, _, hcap, _⟩
  all_goals
    go_enter Try.func46, Try.ntmps46
    go_wp2
    go_loop [7, 23] (fun _ i => i = .int .i64 0) (fun _ _ => 0)
    case atStart => rfl
    case round =>
      obtain rfl := hrel
      go_wp2_with (go_at_call 66; refine hcl.mono ?_; rintro r V' ⟨rfl, m1, m2, mb⟩; obtain ⟨d0, d2, d5, g0, g2, g5, hE⟩ := HD.out V' m1 m2 mb; have HEE : Hid _ := hE; clear hE m1 m2 mb)
      go_end0
      rw [HE.out]
      exact ⟨rfl, ⟨_, _, _, HEE.out.1⟩, HEE.out.2⟩
end
end Go.Proofs.Ytdapapnkmicklaa
