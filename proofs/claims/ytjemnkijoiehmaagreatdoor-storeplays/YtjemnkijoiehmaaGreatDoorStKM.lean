import Derived.Test.YtjemnkijoiehmaaGreatDoorStNumM
import Derived.Test.YtjemnkijoiehmaaGreatDoorDkF2M
import Derived.Test.YtjemnkijoiehmaaGreatDoorWlMathM
/- store: on plain data: what stays in memory, what goes to the disk; what the disk then has. -/
namespace Go.Proofs.YtjemnkijoiehmaaGreatDoor
/-- A text as it is held. -/
structure Hd where
  t : Bs
  a : Bool
  u : Nat
def lvH (h : Hd) : Value := .agg #[.string (str h.t), .bool h.a, .int .u32 h.u]
def zvH : Value := .agg #[.string (str []), .bool false, .int .u32 0]
def lenH (g : Int → Option Hd) (x : Int) : Nat := ((g x).map (fun h => h.t.length)).getD 0
def byt (g : Int → Option Hd) (L : List Int) : Nat := (L.map (lenH g)).sum
/-- How many go, until the bytes fit. -/
def goN (g : Int → Option Hd) (bud : Int) : List Int → Nat → Nat
  | [], _ => 0
  | m :: r, t => if (t : Int) ≤ bud then 0 else goN g bud r (t - lenH g m) + 1
theorem goN_le (g : Int → Option Hd) (bud : Int) (L : List Int) (t : Nat) : goN g bud L t ≤ L.length := by
  induction L generalizing t with
  | nil => exact Nat.le_refl _
  | cons m r ih =>
    unfold goN
    split
    · exact Nat.zero_le _
    · have := ih (t - lenH g m)
      rw [List.length_cons]
      omega
theorem byt_nil (g : Int → Option Hd) : byt g [] = 0 := rfl
theorem byt_cons (g : Int → Option Hd) (m : Int) (r : List Int) : byt g (m :: r) = lenH g m + byt g r := by unfold byt; rw [List.map_cons, List.sum_cons]
theorem byt_app (g : Int → Option Hd) (L R : List Int) : byt g (L ++ R) = byt g L + byt g R := by unfold byt; rw [List.map_append, List.sum_append]
theorem byt_drop (g : Int → Option Hd) (L : List Int) (k : Nat) (h : k < L.length) : byt g (L.drop k) = lenH g L[k] + byt g (L.drop (k + 1)) := by
  rw [List.drop_eq_getElem_cons h, byt_cons]
/-- What a state of the search says of the whole. -/
theorem goN_drop (g : Int → Option Hd) (bud : Int) (L : List Int) (k t : Nat) (h : k < L.length) : goN g bud (L.drop k) t = if (t : Int) ≤ bud then 0 else goN g bud (L.drop (k + 1)) (t - lenH g L[k]) + 1 := by
  rw [List.drop_eq_getElem_cons h, goN]
theorem byt_le {g : Int → Option Hd} {M : Nat} (L : List Int) (h : ∀ x ∈ L, lenH g x ≤ M) : byt g L ≤ L.length * M := by
  induction L with
  | nil => exact Nat.zero_le _
  | cons m r ih =>
    have h1 := h m (List.mem_cons_self ..)
    have h2 := ih (fun x hx => h x (List.mem_cons_of_mem _ hx))
    rw [byt_cons, List.length_cons, Nat.add_mul]
    omega
/-- A store on plain data: texts, those in memory by when they were used last, how often one went to the disk, its budget. -/
structure St where
  f : Int → Option Bs
  near : List Int
  sp : Nat
  bud : Int
def heldO (f : Int → Option Bs) (near : List Int) : Int → Option Hd := fun x => (f x).map (fun t => if x ∈ near then ⟨t, false, 0⟩ else ⟨[], true, crcN t⟩)
/-- Of the others, how many go when a number has a text. -/
def St.go (K : St) (n : Int) (t : Bs) : Nat := goN (heldO K.f K.near) K.bud (woI K.near n) (byt (heldO K.f K.near) (woI K.near n) + t.length)
def St.use (K : St) (n : Int) (t : Bs) : St := ⟨setO K.f n t, (woI K.near n).drop (K.go n t) ++ [n], K.sp + K.go n t, K.bud⟩
def St.drop (K : St) (n : Int) : St := ⟨cutO' K.f n, woI K.near n, K.sp, K.bud⟩
structure St.ok (K : St) : Prop where
  sup : Sup K.f
  nd : K.near.Nodup
  sub : ∀ x ∈ K.near, (K.f x).isSome = true
  siz : ∀ x t, K.f x = some t → t.length ≤ 140737488351232
  bud : -9223372036854775808 ≤ K.bud ∧ K.bud ≤ 9223372036854775807
theorem drop_nodup {L : List Int} (h : L.Nodup) (k : Nat) : (L.drop k).Nodup := List.Nodup.sublist (List.drop_sublist _ _) h
theorem take_nodup {L : List Int} (h : L.Nodup) (k : Nat) : (L.take k).Nodup := List.Nodup.sublist (List.take_sublist _ _) h
theorem take_drop_not {L : List Int} (h : L.Nodup) (k : Nat) {x : Int} (h1 : x ∈ L.take k) : x ∉ L.drop k := by
  have e := List.take_append_drop k L
  rw [← e] at h
  exact fun h2 => (List.nodup_append.1 h).2.2 x h1 x h2 rfl
theorem mem_td {L : List Int} (k : Nat) {x : Int} : x ∈ L ↔ x ∈ L.take k ∨ x ∈ L.drop k := by
  rw [← List.mem_append, List.take_append_drop]
section
variable {K : St} {n : Int} {t : Bs}
theorem St.ok.few (h : K.ok) : K.near.length ≤ 16 := few16 h.nd (fun x hx => h.sup x (h.sub x hx))
theorem St.ok.use (h : K.ok) (h0 : 0 ≤ n) (h1 : n < 16) (ht : t.length ≤ 140737488351232) : (K.use n t).ok := by
  have hnd := woI_nodup (n := n) h.nd
  refine ⟨h.sup.set h0 h1, ?_, ?_, ?_, h.bud⟩
  · unfold St.use
    refine List.nodup_append.2 ⟨drop_nodup hnd _, by simp, fun x hx y hy e => ?_⟩
    have := mem_woI.1 (List.mem_of_mem_drop hx)
    rw [List.mem_singleton] at hy
    exact this.2 (e.trans hy)
  · intro x hx
    rcases List.mem_append.1 hx with hx | hx
    · have := mem_woI.1 (List.mem_of_mem_drop hx)
      show (setO K.f n t x).isSome = true
      rw [set_ne this.2]
      exact h.sub x this.1
    · rw [List.mem_singleton.1 hx]
      show (setO K.f n t n).isSome = true
      rw [set_same]
      rfl
  · intro x s hx
    change setO K.f n t x = some s at hx
    by_cases e : x = n
    · rw [e, set_same] at hx
      cases hx
      exact ht
    · rw [set_ne e] at hx
      exact h.siz x s hx
theorem St.ok.drop (h : K.ok) : (K.drop n).ok := by
  refine ⟨h.sup.cut, woI_nodup h.nd, ?_, ?_, h.bud⟩
  · intro x hx
    have := mem_woI.1 hx
    show (cutO' K.f n x).isSome = true
    rw [cut_ne this.2]
    exact h.sub x this.1
  · intro x s hx
    change cutO' K.f n x = some s at hx
    by_cases e : x = n
    · rw [e, cut_same] at hx
      cases hx
    · rw [cut_ne e] at hx
      exact h.siz x s hx
theorem heldO_near {f : Int → Option Bs} {near : List Int} {x : Int} {s : Bs} (hf : f x = some s) (h : x ∈ near) : heldO f near x = some ⟨s, false, 0⟩ := by
  unfold heldO
  rw [hf, Option.map_some, if_pos h]
theorem heldO_away {f : Int → Option Bs} {near : List Int} {x : Int} {s : Bs} (hf : f x = some s) (h : x ∉ near) : heldO f near x = some ⟨[], true, crcN s⟩ := by
  unfold heldO
  rw [hf, Option.map_some, if_neg h]
theorem heldO_none {f : Int → Option Bs} {near : List Int} {x : Int} (hf : f x = none) : heldO f near x = none := by
  unfold heldO
  rw [hf]
  rfl
theorem heldO_some {f : Int → Option Bs} {near : List Int} (x : Int) : (heldO f near x).isSome = (f x).isSome := by
  unfold heldO
  cases f x <;> rfl
theorem St.ok.lenH (h : K.ok) (x : Int) : lenH (heldO K.f K.near) x ≤ 140737488351232 := by
  unfold Go.Proofs.YtjemnkijoiehmaaGreatDoor.lenH
  cases hf : K.f x with
  | none => rw [heldO_none hf]; exact Nat.zero_le _
  | some s =>
    by_cases hx : x ∈ K.near
    · rw [heldO_near hf hx]; exact h.siz x s hf
    · rw [heldO_away hf hx]; exact Nat.zero_le _
/-- What goes: laid as away, one behind the other. -/
def awayO (f : Int → Option Bs) (g : Int → Option Hd) (L : List Int) : Int → Option Hd := L.foldl (fun g m => setO g m ⟨[], true, crcN ((f m).getD [])⟩) g
theorem awayO_at (f : Int → Option Bs) (L : List Int) (g : Int → Option Hd) (x : Int) : awayO f g L x = if x ∈ L then some ⟨[], true, crcN ((f x).getD [])⟩ else g x := by
  unfold awayO
  induction L generalizing g with
  | nil => rw [if_neg (by simp)]; rfl
  | cons m r ih =>
    rw [List.foldl_cons, ih]
    by_cases h : x ∈ r
    · rw [if_pos h, if_pos (List.mem_cons_of_mem _ h)]
    · rw [if_neg h]
      by_cases e : x = m
      · rw [e, set_same, if_pos (List.mem_cons_self ..)]
      · rw [set_ne e, if_neg (fun hh => (List.mem_cons.1 hh).elim e h)]
theorem awayO_snoc (f : Int → Option Bs) (g : Int → Option Hd) (L : List Int) (m : Int) : awayO f g (L ++ [m]) = setO (awayO f g L) m ⟨[], true, crcN ((f m).getD [])⟩ := by unfold awayO; rw [List.foldl_append]; rfl
theorem use_held (h : K.ok) : setO (awayO K.f (heldO K.f K.near) ((woI K.near n).take (K.go n t))) n ⟨t, false, 0⟩ = heldO (K.use n t).f (K.use n t).near := by
  funext x
  have hnd := woI_nodup (n := n) h.nd
  by_cases e : x = n
  · rw [e, set_same]
    exact (heldO_near (f := setO K.f n t) set_same (List.mem_append_right _ (List.mem_singleton.2 rfl))).symm
  · rw [set_ne e, awayO_at]
    have hin : x ∈ (K.use n t).near ↔ x ∈ (woI K.near n).drop (K.go n t) := by
      unfold St.use
      rw [List.mem_append, List.mem_singleton]
      exact ⟨fun hh => hh.resolve_right e, .inl⟩
    have hff : (K.use n t).f x = K.f x := set_ne e
    by_cases hg : x ∈ (woI K.near n).take (K.go n t)
    · rw [if_pos hg]
      have hs := h.sub x (mem_woI.1 (List.mem_of_mem_take hg)).1
      obtain ⟨s, hs⟩ := Option.isSome_iff_exists.1 hs
      rw [heldO_away (hff.trans hs) (fun hh => take_drop_not hnd _ hg (hin.1 hh)), hs]
      rfl
    · rw [if_neg hg]
      have hiff : x ∈ (K.use n t).near ↔ x ∈ K.near := by
        rw [hin]
        constructor
        · exact fun hh => (mem_woI.1 (List.mem_of_mem_drop hh)).1
        · exact fun hh => ((mem_td (K.go n t)).1 (mem_woI.2 ⟨hh, e⟩)).resolve_left hg
      unfold heldO
      rw [hff]
      cases K.f x with
      | none => rfl
      | some s =>
        rw [Option.map_some, Option.map_some]
        by_cases hn : x ∈ K.near
        · rw [if_pos hn, if_pos (hiff.2 hn)]
        · rw [if_neg hn, if_neg (fun hh => hn (hiff.1 hh))]
theorem drop_held : cutO' (heldO K.f K.near) n = heldO (K.drop n).f (K.drop n).near := by
  funext x
  by_cases e : x = n
  · rw [e, cut_same]
    exact (heldO_none (f := cutO' K.f n) cut_same).symm
  · rw [cut_ne e]
    unfold heldO
    rw [show (K.drop n).f x = K.f x from cut_ne e]
    cases K.f x with
    | none => rfl
    | some s =>
      rw [Option.map_some, Option.map_some]
      by_cases hn : x ∈ K.near
      · rw [if_pos hn, if_pos (show x ∈ (K.drop n).near from mem_woI.2 ⟨hn, e⟩)]
      · rw [if_neg hn, if_neg (show ¬ x ∈ (K.drop n).near from fun hh => hn (mem_woI.1 hh).1)]
end
theorem st_fitput {M : Nat} {l : Fl} (h : FitF M l) (x v : Bs) (hv : v.length ≤ M) : FitF M (putF x v l) := by
  intro p hp
  rcases mem_putF hp with rfl | hp
  · exact hv
  · exact h p hp
theorem st_fitdel {M : Nat} {l : Fl} (h : FitF M l) (x : Bs) : FitF M (delF x l) := fun p hp => h p (mem_delF hp)
/-- A disk as a store has it. -/
structure DkI (A : Dk) (c : Nat) : Prop where
  dead : A.dead = false
  pv : A.pv = .slice none 0 0
  n : A.n ≤ c
  l : A.loose.length ≤ c
  len : A.now.length ≤ c
  fit : FitF 281474976710656 A.now
theorem now_add (A : Dk) (c : Chg) : (A.add c).now = doF A.now c := by
  unfold Dk.now Dk.add
  exact doneF_snoc _ _ _
section
variable {A : Dk} {c : Nat} {nm x : Bs}
theorem DkI.mono (h : DkI A c) {d : Nat} (hd : c ≤ d) : DkI A d := ⟨h.dead, h.pv, Nat.le_trans h.n hd, Nat.le_trans h.l hd, Nat.le_trans h.len hd, h.fit⟩
theorem DkI.bd (h : DkI A c) (hc : c ≤ 1000000) (k : Int) (hx : x.length ≤ 281474976710656) : Bd A ⟨k, nm, [], x⟩ := by
  have h1 := h.len
  have h2 := h.fit.of nm
  have h3 := h.n
  have h4 := h.l
  refine ⟨?_, ?_, by omega, by omega⟩
  · unfold maxLen; omega
  · show (ofF nm A.now).length + x.length ≤ _
    unfold maxLen
    omega
theorem do_write (l : Fl) (nm x : Bs) : doF l ⟨1, nm, [], x⟩ = putF nm x l := by
  unfold doF
  rw [if_neg (show ¬ (1 : Int) = 0 by decide), if_pos rfl]
theorem do_remove (l : Fl) (nm : Bs) : doF l ⟨3, nm, [], []⟩ = delF nm l := by
  unfold doF
  rw [if_neg (show ¬ (3 : Int) = 0 by decide), if_neg (show ¬ (3 : Int) = 1 by decide), if_neg (show ¬ (3 : Int) = 2 by decide)]
theorem DkI.write (h : DkI A c) (hx : x.length ≤ 281474976710656) : DkI (A.add ⟨1, nm, [], x⟩) (c + 1) := by
  have h1 := len_doF A.now ⟨1, nm, [], x⟩
  have h2 := h.len
  have h3 := h.n
  have h4 := h.l
  refine ⟨h.dead, h.pv, ?_, ?_, ?_, ?_⟩
  · show A.n + 1 ≤ _; omega
  · show (A.loose ++ [_]).length ≤ _; rw [List.length_append, List.length_singleton]; omega
  · rw [now_add]; omega
  · rw [now_add, do_write]; exact st_fitput h.fit nm x hx
theorem DkI.remove (h : DkI A c) : DkI (A.add ⟨3, nm, [], []⟩) (c + 1) := by
  have h1 := len_doF A.now ⟨3, nm, [], []⟩
  have h2 := h.len
  have h3 := h.n
  have h4 := h.l
  refine ⟨h.dead, h.pv, ?_, ?_, ?_, ?_⟩
  · show A.n + 1 ≤ _; omega
  · show (A.loose ++ [_]).length ≤ _; rw [List.length_append, List.length_singleton]; omega
  · rw [now_add]; omega
  · rw [now_add, do_remove]; exact st_fitdel h.fit nm
end
/-- Texts written, one behind the other. -/
def wrA (f : Int → Option Bs) (A : Dk) (L : List Int) : Dk := L.foldl (fun A m => A.add ⟨1, fnm m, [], frameB ((f m).getD [])⟩) A
theorem wrA_snoc (f : Int → Option Bs) (A : Dk) (L : List Int) (m : Int) : wrA f A (L ++ [m]) = (wrA f A L).add ⟨1, fnm m, [], frameB ((f m).getD [])⟩ := by unfold wrA; rw [List.foldl_append]; rfl
theorem wrA_ok {f : Int → Option Bs} {A : Dk} {c : Nat} (h : DkI A c) (L : List Int) (hf : ∀ m ∈ L, ((f m).getD []).length ≤ 140737488351232) : DkI (wrA f A L) (c + L.length) := by
  induction L generalizing A c with
  | nil => exact h
  | cons m r ih =>
    have h1 := hf m (List.mem_cons_self ..)
    have h2 := frameB_le ((f m).getD []) (by omega)
    have := ih (h.write (nm := fnm m) (x := frameB ((f m).getD [])) (by omega)) (fun x hx => hf x (List.mem_cons_of_mem _ hx))
    refine this.mono ?_
    rw [List.length_cons]
    omega
theorem sort_now {A : Dk} (c : Chg) (h : SortF A.now) : SortF (A.add c).now := by rw [now_add]; exact sort_doF c h
theorem wrA_get {f : Int → Option Bs} {A : Dk} (hs : SortF A.now) (L : List Int) (hL : ∀ m ∈ L, 0 ≤ m ∧ m < 16) {x : Int} (h0 : 0 ≤ x) (h1 : x < 16) : getF (fnm x) (wrA f A L).now = if x ∈ L then some (frameB ((f x).getD [])) else getF (fnm x) A.now := by
  induction L generalizing A with
  | nil => rw [if_neg (by simp)]; rfl
  | cons m r ih =>
    show getF (fnm x) (wrA f (A.add _) r).now = _
    rw [ih (sort_now _ hs) (fun y hy => hL y (List.mem_cons_of_mem _ hy))]
    by_cases h : x ∈ r
    · rw [if_pos h, if_pos (List.mem_cons_of_mem _ h)]
    · rw [if_neg h, now_add, do_write, getF_put hs]
      by_cases e : x = m
      · rw [e, if_pos rfl, if_pos (List.mem_cons_self ..)]
      · have hm := hL m (List.mem_cons_self ..)
        rw [if_neg (fun hh => e (fnm_inj h0 h1 hm.1 hm.2 hh)), if_neg (fun hh => (List.mem_cons.1 hh).elim e h)]
/-- What is away has its file. -/
def Files (K : St) (A : Dk) : Prop := ∀ x s, K.f x = some s → x ∉ K.near → getF (fnm x) A.now = some (frameB s)
theorem use_files {K : St} {A : Dk} {n : Int} {t : Bs} (h : K.ok) (hs : SortF A.now) (hF : Files K A) : Files (K.use n t) (wrA K.f A ((woI K.near n).take (K.go n t))) := by
  intro x s hx hn
  have hnx : ¬ x = n := fun e => hn (List.mem_append_right _ (List.mem_singleton.2 e))
  have hfx : K.f x = some s := by
    rw [← hx]
    exact (set_ne hnx).symm
  have hr := h.sup x (by rw [hfx]; rfl)
  rw [wrA_get hs _ (fun m hm => h.sup m (h.sub m (mem_woI.1 (List.mem_of_mem_take hm)).1)) hr.1 hr.2]
  by_cases hg : x ∈ (woI K.near n).take (K.go n t)
  · rw [if_pos hg, hfx]
    rfl
  · rw [if_neg hg]
    refine hF x s hfx (fun hh => ?_)
    rcases (mem_td (K.go n t)).1 (mem_woI.2 ⟨hh, hnx⟩) with h1 | h1
    · exact hg h1
    · exact hn (List.mem_append_left _ h1)
theorem drop_files {K : St} {A : Dk} {n : Int} (h : K.ok) (hs : SortF A.now) (h0 : 0 ≤ n) (h1 : n < 16) (hF : Files K A) : Files (K.drop n) A ∧ Files (K.drop n) (A.add ⟨3, fnm n, [], []⟩) := by
  have key : Files (K.drop n) A := by
    intro x s hx hn
    change cutO' K.f n x = some s at hx
    by_cases e : x = n
    · rw [e, cut_same] at hx; cases hx
    · rw [cut_ne e] at hx
      exact hF x s hx (fun hh => hn (mem_woI.2 ⟨hh, e⟩))
  refine ⟨key, fun x s hx hn => ?_⟩
  rw [now_add, do_remove, getF_del hs]
  have e : ¬ x = n := fun e => by
    change cutO' K.f n x = some s at hx
    rw [e, cut_same] at hx
    cases hx
  have hr := h.drop.sup x (by rw [hx]; rfl)
  rw [if_neg (fun hh => e (fnm_inj hr.1 hr.2 h0 h1 hh))]
  exact key x s hx hn
end Go.Proofs.YtjemnkijoiehmaaGreatDoor
