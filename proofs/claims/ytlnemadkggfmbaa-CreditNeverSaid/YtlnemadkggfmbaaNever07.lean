/- What each call leaves of a ledger, and of what was given and spent (the books of the statement CreditNever). -/
import Derived.Test.YtlnemadkggfmbaaBoth07
import Derived.Test.YtlnemadkggfmbaaMapZ
namespace Go.Proofs.Ytlnemadkggfmbaa
open Go.RowKit

/-- the books: G what was given, P what was spent -/
structure Bk (M C S : Int) (L : List Gn) (G P : Int → Int) : Prop where
  g0 : G 0 = C + S
  p0 : P 0 = S
  gx : ∀ x ∈ L, G x.id = x.n + x.s
  px : ∀ x ∈ L, P x.id = x.s
  gb : ∀ z, -M ≤ G z ∧ G z ≤ M
  pb : ∀ z, -M ≤ P z ∧ P z ≤ M
structure Nv (w : World) (b cb base : Nat) (M C S : Int) (v : Value) (L : List Gn) : Prop where
  lg : Lg w b cb base C S v L
  inv : Inv M C S L
section
variable {w : World} {b cb base : Nat} {M C S : Int} {v : Value} {L : List Gn} {G P : Int → Int}
theorem Bk.more (h : Bk M C S L G P) {M' : Int} (hm : M ≤ M') : Bk M' C S L G P :=
  ⟨h.g0, h.p0, h.gx, h.px, fun z => by have := h.gb z; omega, fun z => by have := h.pb z; omega⟩
/-- what a call leaves: it was refused, and nothing is another; or it was done -/
def YNo (w : World) (b cb base : Nat) (M C S : Int) (v : Value) (L : List Gn) (x : Ending) (w' : World) : Prop :=
  ∃ (r : Int) (v' : Value), (r == 0) = false ∧ x = .returned (.int .i64 r) ∧ Nv w' b cb base M C S v' L ∧ Only (Ft b cb v L) w w'
def YYes (w : World) (b cb base : Nat) (M : Int) (v : Value) (L : List Gn) (Q : Int → Int → List Gn → Prop) (x : Ending) (w' : World) : Prop :=
  ∃ C' S' v' L', x = .returned (.int .i64 0) ∧ Nv w' b cb base (M + 4294967296) C' S' v' L' ∧ Only (Ft b cb v L) w w' ∧ Q C' S' L'
theorem no_of {r : Int} {x : Ending} {w' : World} (hr : (r == 0) = false) (h : Nv w b cb base M C S v L) (hx : x = .returned (.int .i64 r)) (ho : Only Nil w w') : YNo w b cb base M C S v L x w' :=
  ⟨r, v, hr, hx, ⟨h.lg.kept ho, h.inv⟩, ho.of_nil _⟩
/-- it is refused, or done: which one stands ahead -/
def Yn (F : Nat) (args : Array Value) (w : World) (b cb base : Nat) (M C S : Int) (v : Value) (L : List Gn) (Q : Int → Int → List Gn → Prop) : Prop :=
  Calls Try.prog F args w (YNo w b cb base M C S v L) ∨ Calls Try.prog F args w (YYes w b cb base M v L Q)
theorem nv_open (id n : Int) (h : Nv w b cb base M C S v L) (hM : 0 ≤ M) (hb : Bk M C S L G P) :
    Yn 11 #[.pointer (some ⟨b, 0, none⟩), .int .i64 id, .int .i64 n] w b cb base M C S v L (fun C' S' L' => Bk (M + 4294967296) C' S' L' (upd G id n) (upd P id 0)) := by
  have hl := h.inv.len
  have hi := h.inv
  by_cases a1 : id < 1 ∨ 2147483647 < id
  · exact .inl ((Open_arg id n w a1).mono fun x w' hh => by obtain ⟨hx, rfl⟩ := hh; exact no_of (r := 2) rfl h hx (Only.refl _ _))
  · have i1 : 1 ≤ id := by omega
    have i2 : id ≤ 2147483647 := by omega
    by_cases a2 : 0 ≤ n ∧ n ≤ 2147483647
    · rcases in_or_out L id with ho | ⟨i, y, hy, e⟩
      · by_cases a3 : 64 ≤ L.length
        · exact .inl ((Open_full id n w h.lg (by omega) ho a3 i1 i2 a2).mono fun x w' hh => no_of (r := 16) rfl h hh.1 hh.2)
        · refine .inr ((Open_new id n w h.lg ho (by omega) i1 i2 a2).mono ?_)
          rintro x w' ⟨r, wb, hp, v', rfl, hL, hO⟩
          refine ⟨C, S, v', _, rfl, ⟨hL, (hi.ins hM hp ho (by omega) i1 i2 a2).more (by omega)⟩, hO, ?_⟩
          have h0 : ∀ x ∈ L.take r ++ (⟨id, 0, n, wb⟩ : Gn) :: L.drop r, x = ⟨id, 0, n, wb⟩ ∨ (x ∈ L ∧ x.id ≠ id) := fun x hx => by
            rcases mem_ins hx with rfl | hx
            · exact .inl rfl
            · exact .inr ⟨hx, ho x hx⟩
          refine ⟨by unfold upd; rw [if_neg (by omega)]; exact hb.g0, by unfold upd; rw [if_neg (by omega)]; exact hb.p0, fun x hx => ?_, fun x hx => ?_, fun z => ?_, fun z => ?_⟩
          · rcases h0 x hx with rfl | ⟨hx, hne⟩
            · unfold upd; rw [if_pos rfl]; dsimp only; omega
            · unfold upd; rw [if_neg hne]; exact hb.gx x hx
          · rcases h0 x hx with rfl | ⟨hx, hne⟩
            · unfold upd; rw [if_pos rfl]
            · unfold upd; rw [if_neg hne]; exact hb.px x hx
          · have := hb.gb z
            unfold upd; split <;> omega
          · have := hb.pb z
            unfold upd; split <;> omega
      · exact .inl ((Open_there i y id n w h.lg (by omega) hi.up hy e i1 i2 a2).mono fun x w' hh => no_of (r := 8) rfl h hh.1 hh.2)
    · exact .inl ((Open_range id n w i1 i2 a2).mono fun x w' hh => by obtain ⟨hx, rfl⟩ := hh; exact no_of (r := 3) rfl h hx (Only.refl _ _))
theorem nv_close (id : Int) (h : Nv w b cb base M C S v L) (hb : Bk M C S L G P) :
    Yn 12 #[.pointer (some ⟨b, 0, none⟩), .int .i64 id] w b cb base M C S v L (fun C' S' L' => Bk (M + 4294967296) C' S' L' G P) := by
  have hl := h.inv.len
  rcases in_or_out L id with ho | ⟨i, y, hy, e⟩
  · exact .inl ((Close_out id w h.lg (by omega) ho).mono fun x w' hh => no_of (r := 7) rfl h hh.1 hh.2)
  · refine .inr ((Close_in i y id w h.lg (by omega) h.inv.up hy e).mono ?_)
    rintro x w' ⟨v', rfl, hL, hO⟩
    have hs := List.eraseIdx_sublist L i
    exact ⟨C, S, v', _, rfl, ⟨hL, (h.inv.sub hs).more (by omega)⟩, hO, (⟨hb.g0, hb.p0, fun x hx => hb.gx x (hs.subset hx), fun x hx => hb.px x (hs.subset hx), hb.gb, hb.pb⟩ : Bk M C S _ G P).more (by omega)⟩
theorem other_id {i : Nat} {x y z : Gn} (hr : rise L) (hx : L[i]? = some x) (hz : z ∈ L.set i y) : z = y ∨ (z ∈ L ∧ z.id ≠ x.id) := by
  rcases mem_set hx hz with rfl | ⟨j, hj, hz⟩
  · exact .inl rfl
  · exact .inr ⟨List.mem_of_getElem? hz, fun e => hj (rise_inj hr hz hx e)⟩
theorem growE_0 {n k : Int} : growE n k = 0 ∨ (growE n k == 0) = false := by
  unfold growE chE
  split
  · split
    · exact .inl rfl
    · exact .inr rfl
  · exact .inr rfl
theorem grow_ok {n k : Int} (h : growE n k = 0) : growN n k = n + k ∧ 1 ≤ k ∧ k ≤ 2147483647 := by
  unfold growE chE at h
  split at h
  · rename_i hk
    split at h
    · rename_i hc
      exact ⟨by unfold growN chN; rw [if_pos hk, if_pos hc], hk⟩
    · omega
  · omega
theorem grow_no {n k : Int} (h : (growE n k == 0) = false) : growN n k = n := by
  unfold growE chE at h
  unfold growN chN
  split at h
  · rename_i hk
    split at h
    · simp at h
    · rename_i hc
      rw [if_pos hk, if_neg hc]
  · rename_i hk
    rw [if_neg hk]
theorem set_self {i : Nat} {x : Gn} (hx : L[i]? = some x) : L.set i ⟨x.id, x.s, x.n, x.b⟩ = L := by
  apply List.ext_getElem?
  intro j
  by_cases hij : i = j
  · subst hij
    rw [List.getElem?_set_self (List.getElem?_eq_some_iff.1 hx).1, hx]
  · rw [List.getElem?_set_ne hij]
theorem nv_grow (id k : Int) (h : Nv w b cb base M C S v L) (hb : Bk M C S L G P) :
    Yn 13 #[.pointer (some ⟨b, 0, none⟩), .int .i64 id, .int .i64 k] w b cb base M C S v L (fun C' S' L' => 1 ≤ k ∧ k ≤ 2147483647 ∧ Bk (M + 4294967296) C' S' L' (upd G id (G id + k)) P) := by
  have hl := h.inv.len
  have hi := h.inv
  by_cases a0 : id = 0
  · subst a0
    rcases growE_0 (n := C) (k := k) with e | e
    · refine .inr ((Grow_0 k w h.lg hi.win).mono ?_)
      rintro x w' ⟨v', rfl, hL, hO⟩
      obtain ⟨e1, e2, e3⟩ := grow_ok e
      refine ⟨_, S, v', L, by rw [e], ⟨hL, ⟨hi.up, hi.len, ⟨growN_ok hi.win.1, hi.win.2⟩, hi.sum.more (by omega), hi.ids⟩⟩, hO, e2, e3, ?_⟩
      refine ⟨by unfold upd; rw [if_pos rfl, hb.g0, e1]; omega, hb.p0, fun x hx => ?_, hb.px, fun z => ?_, fun z => by have := hb.pb z; omega⟩
      · have := (hi.ids x hx).1
        unfold upd; rw [if_neg (by omega)]; exact hb.gx x hx
      · have := hb.gb z
        have := hb.gb 0
        unfold upd; split <;> omega
    · refine .inl ((Grow_0 k w h.lg hi.win).mono ?_)
      rintro x w' ⟨v', rfl, hL, hO⟩
      have e1 := grow_no e
      rw [e1] at hL
      exact ⟨_, v', e, rfl, ⟨hL, hi⟩, hO⟩
  · have h0 : (id == 0) = false := by simpa using a0
    rcases in_or_out L id with ho | ⟨i, y, hy, e⟩
    · exact .inl ((Grow_out id k w h.lg (by omega) h0 ho).mono fun x w' hh => no_of (r := 7) rfl h hh.1 hh.2)
    · have hys := hi.sum.2 y (List.mem_of_getElem? hy)
      rcases growE_0 (n := y.n) (k := k) with q | q
      · refine .inr ((Grow_in i y id k w h.lg (by omega) hi.up hy e h0 hi.win).mono ?_)
        rintro x w' ⟨v', rfl, hL, hO⟩
        obtain ⟨e1, e2, e3⟩ := grow_ok q
        have hyw := growN_ok (k := k) (hi.win.2 y (List.mem_of_getElem? hy))
        rw [e1] at hL hyw
        refine ⟨C, S, v', _, by rw [q], ⟨hL, hi.setG (y := ⟨y.id, y.s, y.n + k, y.b⟩) hy rfl (by omega) hi.win.1 (by have := hi.sum.1; omega) hyw (by dsimp only; omega)⟩, hO, e2, e3, ?_⟩
        have hyi := (hi.ids y (List.mem_of_getElem? hy)).1
        have hgy := hb.gx y (List.mem_of_getElem? hy)
        have hpy := hb.px y (List.mem_of_getElem? hy)
        rw [e] at hgy hpy
        refine ⟨by unfold upd; rw [if_neg (by omega)]; exact hb.g0, hb.p0, fun x hx => ?_, fun x hx => ?_, fun z => ?_, fun z => by have := hb.pb z; omega⟩
        · rcases other_id hi.up hy hx with rfl | ⟨hx, hne⟩
          · unfold upd; rw [if_pos e]; dsimp only; omega
          · unfold upd; rw [if_neg (by rw [← e]; exact hne)]; exact hb.gx x hx
        · rcases other_id hi.up hy hx with rfl | ⟨hx, hne⟩
          · dsimp only; rw [e]; exact hpy
          · exact hb.px x hx
        · have := hb.gb z
          have := hb.gb id
          unfold upd; split <;> omega
      · refine .inl ((Grow_in i y id k w h.lg (by omega) hi.up hy e h0 hi.win).mono ?_)
        rintro x w' ⟨v', rfl, hL, hO⟩
        have e1 := grow_no q
        rw [e1, set_self hy] at hL
        exact ⟨_, v', q, rfl, ⟨hL, hi⟩, hO⟩
def spP (P : Int → Int) (id k : Int) : Int → Int := upd (upd P id (P id + k)) 0 (upd P id (P id + k) 0 + k)
theorem nv_spend (id k : Int) (h : Nv w b cb base M C S v L) (hM : 0 ≤ M ∧ M ≤ 900000000000) (hb : Bk M C S L G P) :
    Yn 16 #[.pointer (some ⟨b, 0, none⟩), .int .i64 id, .int .i64 k] w b cb base M C S v L (fun C' S' L' => 0 ≤ k ∧ k ≤ 2147483647 ∧ 1 ≤ id ∧ id ≤ 2147483647 ∧ (k = 0 → Bk (M + 4294967296) C' S' L' G P) ∧
      (k ≠ 0 → Bk (M + 4294967296) C' S' L' G (spP P id k) ∧ spP P id k id ≤ G id ∧ spP P id k 0 ≤ G 0)) := by
  have hl := h.inv.len
  have hi := h.inv
  have hs := hi.sum.more (show M ≤ 1000000000000 by omega)
  rcases in_or_out L id with ho | ⟨i, y, hy, e⟩
  · exact .inl ((Spend_out id k w h.lg (by omega) ho).mono fun x w' hh => no_of (r := 7) rfl h hh.1 hh.2)
  · by_cases a1 : k < 0
    · exact .inl ((Spend_neg i y id k w h.lg (by omega) hi.up hy e a1).mono fun x w' hh => no_of (r := 2) rfl h hh.1 hh.2)
    · by_cases a2 : 0 < k ∧ frI C y.n < k
      · exact .inl ((Spend_over i y id k w h.lg (by omega) hi.up hy e a2.1 a2.2).mono fun x w' hh => no_of (r := 9) rfl h hh.1 hh.2)
      · refine .inr ((Spend_in i y id k w h.lg (by omega) hi.up hy e (by omega) (fun _ => by omega) hi.win hs).mono ?_)
        rintro x w' ⟨v', rfl, hL, hO⟩
        have hym := List.mem_of_getElem? hy
        have hC := hi.win.1
        have hyn := hi.win.2 y hym
        have hys := hi.sum.2 y hym
        have hS := hi.sum.1
        have hyi := hi.ids y hym
        have hgy := hb.gx y hym
        have hpy := hb.px y hym
        rw [e] at hgy hpy hyi
        have hk2 : k ≤ 2147483647 := by unfold frI winOk at *; omega
        have hk3 : winOk (C - k) ∧ winOk (y.n - k) ∧ (0 < k → 0 ≤ C - k ∧ 0 ≤ y.n - k) := by
          unfold winOk frI at *
          omega
        have hP0 : ∀ z, spP P id k z = if z = 0 then P 0 + k else if z = id then P id + k else P z := fun z => by
          unfold spP upd
          split
          · rw [if_neg (by omega)]
          · rfl
        have hBk : ∀ (P' : Int → Int), P' 0 = P 0 + k → P' id = P id + k → (∀ z, z ≠ 0 → z ≠ id → P' z = P z) → Bk (M + 4294967296) (C - k) (S + k) (L.set i ⟨y.id, y.s + k, y.n - k, y.b⟩) G P' := fun P' q1 q2 q3 => by
          have hp0 := hb.p0
          have hg0 := hb.g0
          refine ⟨by omega, by omega, fun x hx => ?_, fun x hx => ?_, fun z => by have := hb.gb z; omega, fun z => ?_⟩
          · rcases other_id hi.up hy hx with rfl | ⟨hx, hne⟩
            · dsimp only; rw [e]; omega
            · exact hb.gx x hx
          · rcases other_id hi.up hy hx with rfl | ⟨hx, hne⟩
            · dsimp only; rw [e]; omega
            · have := (hi.ids x hx).1
              rw [q3 _ (by omega) (by rw [← e]; exact hne)]
              exact hb.px x hx
          · have := hb.pb z
            have := hb.pb 0
            have := hb.pb id
            by_cases z0 : z = 0
            · subst z0; omega
            · by_cases z1 : z = id
              · subst z1; omega
              · rw [q3 z z0 z1]; omega
        refine ⟨C - k, S + k, v', _, rfl, ⟨hL, hi.setG (y := ⟨y.id, y.s + k, y.n - k, y.b⟩) hy rfl (by omega) hk3.1 (by omega) hk3.2.1 (by dsimp only; omega)⟩, hO, by omega, hk2, hyi.1, hyi.2, fun hk0 => hBk P (by omega) (by omega) (fun _ _ _ => rfl), fun hk0 => ⟨hBk _ ?_ ?_ ?_, ?_, ?_⟩⟩
        · rw [hP0, if_pos rfl]
        · rw [hP0, if_neg (by omega), if_pos rfl]
        · intro z z0 z1
          rw [hP0, if_neg z0, if_neg z1]
        · rw [hP0, if_neg (by omega), if_pos rfl]
          have := hk3.2.2 (by omega)
          omega
        · rw [hP0, if_pos rfl]
          have := hk3.2.2 (by omega)
          have := hb.p0
          have := hb.g0
          omega
/-- given, with so much more for the first ones -/
def gPlus (G : Int → Int) (I : List Int) (d : Int) (k : Nat) : Int → Int := fun z => if z ∈ I.take k then G z + d else G z
theorem gPlus_step {I : List Int} {d : Int} {k : Nat} {y : Int} (hI : I.Nodup) (hy : I[k]? = some y) : upd (gPlus G I d k) y (gPlus G I d k y + d) = gPlus G I d (k + 1) := by
  have hk := (List.getElem?_eq_some_iff.1 hy).1
  have hn : y ∉ I.take k := fun hh => by
    obtain ⟨j, hj⟩ := List.mem_iff_getElem?.1 hh
    have hjk : j < k := by have := (List.getElem?_eq_some_iff.1 hj).1; rw [List.length_take] at this; omega
    rw [List.getElem?_take_of_lt hjk] at hj
    have := (List.getElem?_inj (by omega) hI).1 (hj.trans hy.symm)
    omega
  funext z
  unfold upd gPlus
  by_cases e : z = y
  · subst e
    rw [if_pos rfl, if_neg hn, if_pos (by rw [List.take_add_one, hy]; simp)]
  · rw [if_neg e]
    have : (z ∈ I.take (k + 1)) ↔ z ∈ I.take k := by rw [List.take_add_one, hy]; simp [e]
    simp only [this]
theorem res_ok {n f t : Int} (hs : (szB f && szB t) = true) (h : resE n f t = 0) : resN n f t = n + (t - f) := by
  unfold resE chE at h
  unfold resN chN
  rw [if_pos hs] at h ⊢
  split at h
  · rename_i hc
    rw [if_pos hc]
  · omega
theorem rise_nd (hr : rise L) : (L.map (·.id)).Nodup := by
  rw [rise_pw] at hr
  exact hr.imp fun hh => by omega
theorem nv_resize (f t : Int) (h : Nv w b cb base M C S v L) (hb : Bk M C S L G P) :
    Yn 15 #[.pointer (some ⟨b, 0, none⟩), .int .i64 f, .int .i64 t] w b cb base M C S v L (fun C' S' L' => 0 ≤ f ∧ f ≤ 2147483647 ∧ 0 ≤ t ∧ t ≤ 2147483647 ∧ Bk (M + 4294967296) C' S' L' (gPlus G (L.map (·.id)) (t - f) L.length) P) := by
  have hl := h.inv.len
  have hi := h.inv
  cases hs : (szB f && szB t) with
  | false => exact .inl ((Resize_arg f t w hs).mono fun x w' hh => no_of (r := 2) rfl h hh.1 hh.2)
  | true =>
    have hft : (0 ≤ f ∧ f ≤ 2147483647) ∧ (0 ≤ t ∧ t ≤ 2147483647) := by simpa [szB] using hs
    obtain ⟨i, hz⟩ := rzTo_ex f t hs L
    by_cases hil : i < L.length
    · refine .inl ((Resize_any f t i w h.lg (by omega) hs hi.win hz).mono ?_)
      intro x w' hx
      unfold RsPost at hx
      rw [if_pos hil] at hx
      exact no_of (r := 10) rfl h hx.1 hx.2
    · refine .inr ((Resize_any f t i w h.lg (by omega) hs hi.win hz).mono ?_)
      intro x w' hx
      unfold RsPost at hx
      rw [if_neg hil] at hx
      obtain ⟨bs, hbl, v', rfl, hL, hO⟩ := hx
      have hG : ∀ z, gPlus G (L.map (·.id)) (t - f) L.length z = if z ∈ L.map (·.id) then G z + (t - f) else G z := fun z => by
        unfold gPlus
        rw [List.take_of_length_le (by simp)]
      have hall : ∀ x ∈ L, resN x.n f t = x.n + (t - f) := fun x hx => by
        obtain ⟨j, hj⟩ := List.mem_iff_getElem?.1 hx
        exact res_ok hs (hz.2.1 j x hj (by have := (List.getElem?_eq_some_iff.1 hj).1; omega))
      refine ⟨C, S, v', _, rfl, ⟨hL, (hi.rz hbl).more (by omega)⟩, hO, hft.1.1, hft.1.2, hft.2.1, hft.2.2, ?_⟩
      refine ⟨?_, hb.p0, fun y hy => ?_, fun y hy => ?_, fun z => ?_, fun z => by have := hb.pb z; omega⟩
      · rw [hG, if_neg]
        · exact hb.g0
        · intro hh
          obtain ⟨y, hy, e⟩ := List.mem_map.1 hh
          have := (hi.ids y hy).1
          omega
      · obtain ⟨x, hx, e1, e2, e3⟩ := rzZ_mem hbl hy
        rw [hG, e1, if_pos (List.mem_map.2 ⟨x, hx, rfl⟩), e2, e3, hall x hx]
        have := hb.gx x hx
        omega
      · obtain ⟨x, hx, e1, e2, e3⟩ := rzZ_mem hbl hy
        rw [e1, e2]
        exact hb.px x hx
      · have := hb.gb z
        rw [hG]
        split <;> omega
end
end Go.Proofs.Ytlnemadkggfmbaa
