/- A sender of either kind: one word for both, and what its calls do. -/
import Derived.Test.YtjhjfgelcbphjaaDoorTxI
namespace Go.Proofs.YtjhjfgelcbphjaaDoor
open Go.RowKit

/-- what waits, of either kind -/
def nOf (B : List UInt8) (L : List ByteArray) : Nat := B.length + L.length
inductive PT (w : World) (b base : Nat) : (Nat → Prop) → Int → Int → Int → List UInt8 → List ByteArray → Int → Bool → Bool → Int → Int → Int → Prop
  | bytes {r g c F : Nat} {row B : List UInt8} {st A S D : Int} {en ou : Bool} (h : TBy w b r g base c F row B A S D en ou) : PT w b base (RThr b r g) 1 (c : Int) st B [] 0 en ou A S D
  | items {q dm : Nat} {v : Value} {cp st : Int} {L : List ByteArray} {wn A S D : Int} {en ou : Bool} (h : TIt w b q dm base v cp st L wn A S D en ou) : PT w b base (FIt b q dm v) 2 cp st [] L wn en ou A S D
/-- what a call leaves -/
def PTPost (w : World) (b base : Nat) (F : Nat → Prop) (kd cp st : Int) (r : Value) (B : List UInt8) (L : List ByteArray) (wn : Int) (en ou : Bool) (A S D : Int) (x : Ending) (w' : World) : Prop :=
  ∃ F', x = .returned r ∧ PT w' b base F' kd cp st B L wn en ou A S D ∧ Only F w w' ∧ Grew w F F'
/-- what stays true -/
structure TI (kd m cp : Int) (B : List UInt8) (L : List ByteArray) (wn : Int) (en ou : Bool) (A S D : Int) : Prop where
  sum : A = S + D + (nOf B L : Nat)
  s0 : 0 ≤ S
  d0 : 0 ≤ D
  am : A ≤ m
  cap : ((nOf B L : Nat) : Int) ≤ cp
  w0 : 0 ≤ wn
  w1 : wn ≤ 2147483647
  o : ou = true → en = true ∧ nOf B L = 0
  k1 : kd = 1 → L = []
  k2 : kd = 2 → B = []
section
variable {w w' : World} {b base : Nat} {F : Nat → Prop} {kd cp st : Int} {B : List UInt8} {L : List ByteArray} {wn A S D m : Int} {en ou : Bool}
theorem TI.c (h : TI kd m cp B L wn en ou A S D) (hm : m ≤ 1000000) : cOk (nOf B L : Nat) A S D := ⟨h.sum, by omega, h.s0, h.d0, by have := h.am; omega⟩
theorem TI.le {m' : Int} (h : TI kd m cp B L wn en ou A S D) (hm : m ≤ m') : TI kd m' cp B L wn en ou A S D := ⟨h.sum, h.s0, h.d0, by have := h.am; omega, h.cap, h.w0, h.w1, h.o, h.k1, h.k2⟩
theorem TI.a0 (h : TI kd m cp B L wn en ou A S D) : 0 ≤ A := by have := h.sum; have := h.s0; have := h.d0; omega
theorem TBy.fp {r g c F : Nat} {row : List UInt8} (h : TBy w b r g base c F row B A S D en ou) : ∀ k, RThr b r g k → base ≤ k ∧ k < w.heap.size := fun k hk => by
  have h1 := h.blk.lt
  have h2 := h.ring.blk.lt
  have h3 := h.ring.gb
  have h4 := h.ring.hb
  have h5 := h.hb
  rcases hk with rfl | rfl | rfl <;> omega
theorem TIt.fp {q dm : Nat} {v : Value} (h : TIt w b q dm base v cp st L wn A S D en ou) : ∀ k, FIt b q dm v k → base ≤ k ∧ k < w.heap.size := fun k hk => by
  have h1 := h.blk.lt
  have h2 := h.qu.blk.lt
  have h3 := Blk.lt h.dem
  have h4 := h.hb
  have h5 := h.hd
  have h6 := h.qu.hb
  rcases hk with rfl | rfl | rfl | hk
  · omega
  · omega
  · omega
  · exact h.qu.own.lt hk
theorem PT.fp (h : PT w b base F kd cp st B L wn en ou A S D) : ∀ k, F k → base ≤ k ∧ k < w.heap.size := by
  cases h with
  | bytes h => exact h.fp
  | items h => exact h.fp
theorem PT.hb (h : PT w b base F kd cp st B L wn en ou A S D) : F b := by
  cases h with
  | bytes h => exact .inl rfl
  | items h => exact .inl rfl
theorem PT.sz (h : PT w b base F kd cp st B L wn en ou A S D) : base ≤ w.heap.size := by have := h.fp b h.hb; omega
theorem PT.off {G : Nat → Prop} (h : PT w b base F kd cp st B L wn en ou A S D) (ho : Only G w w') (hs : ∀ k, F k → ¬ G k) : PT w' b base F kd cp st B L wn en ou A S D := by
  cases h with
  | bytes h => exact .bytes ⟨h.blk.kept ho (hs _ (.inl rfl)), h.ring.kept ho (hs _ (.inr (.inl rfl))) (hs _ (.inr (.inr rfl))), h.hb⟩
  | items h => exact .items ⟨h.blk.kept ho (hs _ (.inl rfl)), ⟨h.qu.blk.kept ho (hs _ (.inr (.inr (.inl rfl)))), h.qu.own.kept ho (fun g hg => hs _ (.inr (.inr (.inr hg)))), h.qu.hb⟩, Blk.kept h.dem ho (hs _ (.inr (.inl rfl))), h.hb, h.hd⟩
theorem PT.kept (h : PT w b base F kd cp st B L wn en ou A S D) (ho : Only Nil w w') : PT w' b base F kd cp st B L wn en ou A S D := h.off ho (fun _ _ hh => hh)
theorem PT.below (h : PT w b base F kd cp st B L wn en ou A S D) (ho : Only F w w') : Below base w w' := ho.below h.sz (fun i hi hh => by have := h.fp i hh; omega)
/-- none of its blocks is of a type that it has not -/
theorem PT.ne {t : TypeId} {cs : Array Value} {k : Nat} (h : PT w b base F kd cp st B L wn en ou A S D) (hk : Blk w k t cs) (h1 : t ≠ 111) (h2 : t ≠ 133) (h3 : t ≠ 5) (h4 : t ≠ 135) (h5 : t ≠ 138) (h6 : t ≠ 9) : ¬ F k := by
  cases h with
  | bytes h =>
    rintro (rfl | rfl | rfl)
    · exact h1 (hk.type h.blk)
    · exact h2 (hk.type h.ring.blk)
    · exact (h.ring.own.ne hk (fun e => h3 e.symm)) rfl
  | items h =>
    rintro (rfl | rfl | rfl | e)
    · exact h1 (hk.type h.blk)
    · exact h5 (hk.type h.dem)
    · exact h4 (hk.type h.qu.blk)
    · exact (h.qu.own.ne hk (fun e => h6 e.symm)) e
theorem PTPost.same {r : Value} {x : Ending} (h : PT w b base F kd cp st B L wn en ou A S D) (hx : x = .returned r) (ho : Only Nil w w') : PTPost w b base F kd cp st r B L wn en ou A S D x w' :=
  ⟨F, hx, h.kept ho, ho.of_nil _, Grew.refl _ _⟩
theorem TyPost.pt {r g c : Nat} {v : Value} {x : Ending} (st : Int) (h : TyPost w b r g base c v B A S D en ou x w') : PTPost w b base (RThr b r g) 1 c st v B [] 0 en ou A S D x w' := by
  obtain ⟨F', row', hx, hT, ho⟩ := h
  exact ⟨_, hx, .bytes hT, ho, Grew.refl _ _⟩
theorem TiPost.pt {q dm : Nat} {v0 r : Value} {x : Ending} (h : TiPost w b q dm base v0 cp st r L wn A S D en ou x w') : PTPost w b base (FIt b q dm v0) 2 cp st r [] L wn en ou A S D x w' := by
  obtain ⟨v', hx, hT, ho, hg⟩ := h
  refine ⟨_, hx, .items hT, ho, fun k hk => ?_⟩
  rcases hk with e | e | e | e
  · exact .inl (.inl e)
  · exact .inl (.inr (.inl e))
  · exact .inl (.inr (.inr (.inl e)))
  · exact (hg k e).imp (fun e => .inr (.inr (.inr e))) id
theorem PT.Kind (h : PT w b base F kd cp st B L wn en ou A S D) : Calls Tryd.prog 43 #[.pointer (some ⟨b, 0, none⟩)] w fun x w' => x = .returned (.int .i64 kd) ∧ w = w' := by
  cases h with
  | bytes h => exact TKind_y w h
  | items h => exact TKind_i w h
theorem PT.Told (h : PT w b base F kd cp st B L wn en ou A S D) : Calls Tryd.prog 32 #[.pointer (some ⟨b, 0, none⟩)] w fun x w' => x = .returned (.agg #[.int .i64 A, .int .i64 S, .int .i64 D]) ∧ Only Nil w w' := by
  cases h with
  | bytes h => exact TTold_y w h
  | items h => exact TTold_i w h
theorem PT.Wanted (h : PT w b base F kd cp st B L wn en ou A S D) : Calls Tryd.prog 101 #[.pointer (some ⟨b, 0, none⟩)] w fun x w' => x = .returned (.int .i64 wn) ∧ w = w' := by
  cases h with
  | bytes h => exact TWanted_y w h
  | items h => exact TWanted_i w h
theorem PT.Ready (n : Int) (h : PT w b base F kd cp st B L wn en ou A S D) (hc : cOk (nOf B L : Nat) A S D) (rb : Bool) (hrb : rdyF kd n wn (nOf B L) en ou = rb) : Calls Tryd.prog 85 #[.pointer (some ⟨b, 0, none⟩), .int .i64 n] w fun x w' => x = .returned (.bool rb) ∧ Only Nil w w' := by
  cases h with
  | bytes h => exact TReady_y n w h (by simpa [nOf] using hc) rb (by simpa [nOf] using hrb)
  | items h => exact TReady_i n w h (by simpa [nOf] using hc) rb (by simpa [nOf] using hrb)
theorem PT.Clear (h : PT w b base F kd cp st B L wn en ou A S D) (hc : cOk (nOf B L : Nat) A S D) (hl : kd = 2 → L.length ≤ 1000) : Calls Tryd.prog 60 #[.pointer (some ⟨b, 0, none⟩)] w (PTPost w b base F kd cp st (.int .i64 (nOf B L : Nat)) [] [] wn en ou A S (D + (nOf B L : Nat))) := by
  cases h with
  | bytes h => simpa [nOf] using (TClear_y w h (by simpa [nOf] using hc)).mono fun _ _ hh => hh.pt st
  | items h => simpa [nOf] using (TClear_i w h (by simpa [nOf] using hc) (hl rfl)).mono fun _ _ hh => hh.pt
theorem PT.End0 (h : PT w b base F kd cp st B L wn false ou A S D) : Calls Tryd.prog 65 #[.pointer (some ⟨b, 0, none⟩)] w (PTPost w b base F kd cp st (.int .i64 0) B L wn true ou A S D) := by
  cases h with
  | bytes h => exact (TEnd_y w h).mono fun _ _ hh => hh.pt st
  | items h => exact (TEnd_i w h).mono fun _ _ hh => hh.pt
theorem PT.End1 (h : PT w b base F kd cp st B L wn true ou A S D) : Calls Tryd.prog 65 #[.pointer (some ⟨b, 0, none⟩)] w (PTPost w b base F kd cp st (.int .i64 11) B L wn true ou A S D) := by
  cases h with
  | bytes h => exact (TEnd_yy w h).mono fun _ _ hh => PTPost.same (.bytes h) hh.1 (hh.2 ▸ Only.refl _ _)
  | items h => exact (TEnd_ii w h).mono fun _ _ hh => PTPost.same (.items h) hh.1 (hh.2 ▸ Only.refl _ _)
/-- how many more are wanted, and the error -/
def wnK (kd wn n : Int) : Int := if kd = 1 then wn else wn + Dem.addK wn 2147483647 n
def wnE (kd n : Int) : Int := if kd = 1 then 13 else Dem.addE n
theorem PT.Want (n : Int) (h : PT w b base F kd cp st B L wn en ou A S D) (h0 : 0 ≤ wn) (h1 : wn ≤ 2147483647) (e : Int) (he : wnE kd n = e) (N : Int) (hN : wnK kd wn n = N) : Calls Tryd.prog 47 #[.pointer (some ⟨b, 0, none⟩), .int .i64 n] w (PTPost w b base F kd cp st (.int .i64 e) B L N en ou A S D) := by
  subst he hN
  cases h with
  | bytes h => exact (TWant_y n w h).mono fun _ _ hh => PTPost.same (.bytes h) hh.1 (hh.2 ▸ Only.refl _ _)
  | items h => exact (TWant_i n _ _ _ w h h0 h1 rfl rfl rfl).mono fun _ _ hh => hh.pt
theorem TI.want (n : Int) (h : TI kd m cp B L wn en ou A S D) : TI kd m cp B L (wnK kd wn n) en ou A S D := by
  have h1 := h.w0
  have h2 := h.w1
  refine ⟨h.sum, h.s0, h.d0, h.am, h.cap, ?_, ?_, h.o, h.k1, h.k2⟩
  · unfold wnK Dem.addK
    repeat' split
    all_goals omega
  · unfold wnK Dem.addK
    repeat' split
    all_goals omega
theorem TI.end_ (h : TI kd m cp B L wn en ou A S D) : TI kd m cp B L wn true ou A S D := ⟨h.sum, h.s0, h.d0, h.am, h.cap, h.w0, h.w1, fun e => ⟨rfl, (h.o e).2⟩, h.k1, h.k2⟩
theorem TI.clear (h : TI kd m cp B L wn en ou A S D) (hcp : 0 ≤ cp) : TI kd m cp [] [] wn en ou A S (D + (nOf B L : Nat)) := by
  have h1 := h.sum
  have h2 := h.d0
  exact ⟨by simp [nOf] at *; omega, h.s0, by omega, h.am, by simpa [nOf] using hcp, h.w0, h.w1, fun e => ⟨(h.o e).1, rfl⟩, fun _ => rfl, fun _ => rfl⟩
/-! ### Offer -/
inductive OfR (kd cp st : Int) (X : ByteArray) (B : List UInt8) (L : List ByteArray) (A D : Int) : Bool → Int → Int → List UInt8 → List ByteArray → Int → Int → Prop
  | ended : OfR kd cp st X B L A D true 0 11 B L A D
  | bytes (k : Nat) (hk : kd = 1) (e : k = min X.size (cp.toNat - B.length)) : OfR kd cp st X B L A D false k 0 (B ++ X.data.toList.take k) L (A + k) D
  | big (hk : kd = 2) (hX : 256 < X.size) : OfR kd cp st X B L A D false 0 4 B L A D
  | refused (hk : kd = 2) (hX : X.size ≤ 256) (hf : cp ≤ (L.length : Int)) (hs : st = 0) : OfR kd cp st X B L A D false 0 9 B L A D
  | kept (hk : kd = 2) (hX : X.size ≤ 256) (hf : (L.length : Int) < cp) : OfR kd cp st X B L A D false 1 0 B (L ++ [X]) (A + 1) D
  | dropped (hk : kd = 2) (hX : X.size ≤ 256) (hf : cp ≤ (L.length : Int)) (hs : st ≠ 0) (hd : st = 1 ∨ cp = 0) : OfR kd cp st X B L A D false 2 0 B L (A + 1) (D + 1)
  | pushed (x : ByteArray) (R : List ByteArray) (e : L = x :: R) (hk : kd = 2) (hX : X.size ≤ 256) (hf : cp ≤ (L.length : Int)) (hs : st ≠ 0) (hd : ¬ (st = 1 ∨ cp = 0)) : OfR kd cp st X B L A D false 3 0 B (R ++ [X]) (A + 1) (D + 1)
theorem OfR.ex (X : ByteArray) (hk : kd = 1 ∨ kd = 2) (h0 : 0 ≤ cp) : ∃ r e B' L' A' D', OfR kd cp st X B L A D en r e B' L' A' D' := by
  cases en with
  | true => exact ⟨_, _, _, _, _, _, .ended⟩
  | false =>
    rcases hk with rfl | rfl
    · exact ⟨_, _, _, _, _, _, .bytes _ rfl rfl⟩
    · by_cases hX : 256 < X.size
      · exact ⟨_, _, _, _, _, _, .big rfl hX⟩
      · by_cases hf : (L.length : Int) < cp
        · exact ⟨_, _, _, _, _, _, .kept rfl (by omega) hf⟩
        · by_cases hs : st = 0
          · exact ⟨_, _, _, _, _, _, .refused rfl (by omega) (by omega) hs⟩
          · by_cases hd : st = 1 ∨ cp = 0
            · exact ⟨_, _, _, _, _, _, .dropped rfl (by omega) (by omega) hs hd⟩
            · cases L with
              | nil => simp at hf; omega
              | cons x R => exact ⟨_, _, _, _, _, _, .pushed x R rfl rfl (by omega) (by omega) hs hd⟩
theorem PT.Offer {r e A' D' : Int} {B' : List UInt8} {L' : List ByteArray} (X : ByteArray) (h : PT w b base F kd cp st B L wn en ou A S D) (hr : OfR kd cp st X B L A D en r e B' L' A' D') (hc : cOk (nOf B L : Nat) A S D) (hl : kd = 2 → L.length ≤ 1000) :
    Calls Tryd.prog 54 #[.pointer (some ⟨b, 0, none⟩), .string X] w (PTPost w b base F kd cp st (.tuple #[.int .i64 r, .int .i64 e]) B' L' wn en ou A' S D') := by
  have a0 : 0 ≤ A := by obtain ⟨i1, i2, i3, i4, i5⟩ := hc; omega
  have a1 : A ≤ 1000000 := hc.2.2.2.2
  have d0 : 0 ≤ D := hc.2.2.2.1
  have d1 : D ≤ 1000000 := by obtain ⟨i1, i2, i3, i4, i5⟩ := hc; omega
  have wrap : ∀ {w : World} {b q dm base : Nat} {v : Value} {wn A S D A1 S1 D1 : Int} {ou : Bool} {X : ByteArray} {r e : Int} {L L1 : List ByteArray}, TIt w b q dm base v cp st L wn A S D false ou → Calls Tryd.prog 78 #[.pointer (some ⟨b, 0, none⟩), .string X] w (TiPost w b q dm base v cp st (.tuple #[.int .i64 r, .int .i64 e]) L1 wn A1 S1 D1 false ou) →
      Calls Tryd.prog 54 #[.pointer (some ⟨b, 0, none⟩), .string X] w (PTPost w b base (FIt b q dm v) 2 cp st (.tuple #[.int .i64 r, .int .i64 e]) [] L1 wn false ou A1 S1 D1) := by
    intro w b q dm base v wn A S D A1 S1 D1 ou X r e L L1 h hh
    refine (TOffer_w X w h r e (fun x w' => TiPost w b q dm base v cp st (.tuple #[.int .i64 r, .int .i64 e]) L1 wn A1 S1 D1 false ou x w') (hh.mono fun x w' h1 => ⟨?_, h1⟩)).mono fun x w' h1 => h1.2.pt
    obtain ⟨_, e1, _⟩ := h1
    exact e1
  cases hr with
  | ended =>
    cases h with
    | bytes h => exact (TOffer_yy X w h).mono fun _ _ hh => PTPost.same (.bytes h) hh.1 (hh.2 ▸ Only.refl _ _)
    | items h => exact (TOffer_ii X w h).mono fun _ _ hh => PTPost.same (.items h) hh.1 (hh.2 ▸ Only.refl _ _)
  | bytes k hk e =>
    cases h with
    | bytes h => exact (TOffer_y X w h k (by simpa using e) a0 (by omega)).mono fun _ _ hh => hh.pt st
    | items h => exact absurd hk (by decide)
  | big hk hX =>
    cases h with
    | bytes h => exact absurd hk (by decide)
    | items h => exact wrap h ((offerItem_big X _ w hX).mono fun x w' hh => ⟨_, hh.1, hh.2 ▸ h, hh.2 ▸ Only.refl _ _, fun _ hg => .inl hg⟩)
  | refused hk hX hf hs =>
    cases h with
    | bytes h => exact absurd hk (by decide)
    | items h => exact wrap h (offerItem_0 X w h hX (Qu.Put_refused X w h.qu hf hs))
  | kept hk hX hf =>
    cases h with
    | bytes h => exact absurd hk (by decide)
    | items h => exact wrap h (offerItem_1 X w h hX a0 a1 (Qu.Put_kept X w h.qu (hl rfl) hf a0 a1))
  | dropped hk hX hf hs hd =>
    cases h with
    | bytes h => exact absurd hk (by decide)
    | items h => exact wrap h (offerItem_2 X w h hX a0 a1 d0 d1 2 (.inl rfl) (Qu.Put_dropped X w h.qu hf hs hd a0 a1 d0 d1))
  | pushed x R e hk hX hf hs hd =>
    subst e
    have hl2 := hl hk
    rw [List.length_cons] at hl2
    cases h with
    | items h => exact wrap h (offerItem_2 X w h hX a0 a1 d0 d1 3 (.inr rfl) (Qu.Put_pushed X x R w h.qu (by omega) hf hs hd a0 a1 d0 d1))
theorem TI.offer {r e A' D' : Int} {B' : List UInt8} {L' : List ByteArray} {X : ByteArray} (h : TI kd m cp B L wn en ou A S D) (hr : OfR kd cp st X B L A D en r e B' L' A' D') (h0 : 0 ≤ cp) (hX : X.size ≤ 600) : TI kd (m + 600) cp B' L' wn en ou A' S D' := by
  have i1 := h.sum
  have i2 := h.s0
  have i3 := h.d0
  have i4 := h.am
  have i5 := h.cap
  have i6 := h.w0
  have i7 := h.w1
  have i8 := h.o
  have hnp : en = false → ou = false := fun e => by
    cases ou with
    | false => rfl
    | true => rw [e] at i8; exact absurd (i8 rfl).1 (by decide)
  unfold nOf at *
  cases hr with
  | ended => exact h.le (by omega)
  | bytes k hk e =>
    obtain rfl : ou = false := hnp rfl
    have hL := h.k1 hk
    subst hL
    simp only [List.length_nil, Nat.add_zero] at *
    have hb : (B.length : Int) ≤ cp := by omega
    have ht : (X.data.toList.take k).length = k := by rw [List.length_take]; have : X.data.toList.length = X.size := rfl; omega
    refine ⟨?_, i2, i3, by omega, ?_, i6, i7, fun e => ?_, h.k1, fun e => by rw [hk] at e; exact absurd e (by decide)⟩
    · unfold nOf; rw [List.length_append, ht, List.length_nil]; omega
    · unfold nOf; rw [List.length_append, ht, List.length_nil]; omega
    · exact absurd e (by decide)
  | big hk hX => exact h.le (by omega)
  | refused hk hX hf hs => exact h.le (by omega)
  | kept hk hX hf =>
    obtain rfl : ou = false := hnp rfl
    have hB := h.k2 hk
    subst hB
    refine ⟨?_, i2, i3, by omega, ?_, i6, i7, fun e => ?_, fun e => by rw [hk] at e; exact absurd e (by decide), fun _ => rfl⟩
    · simp [nOf] at *; omega
    · simp [nOf] at *; omega
    · exact absurd e (by decide)
  | dropped hk hX hf hs hd =>
    obtain rfl : ou = false := hnp rfl
    exact ⟨by unfold nOf; omega, i2, by omega, by omega, by unfold nOf; omega, i6, i7, fun e => absurd e (by decide), h.k1, h.k2⟩
  | pushed x R e hk hX hf hs hd =>
    obtain rfl : ou = false := hnp rfl
    subst e
    simp only [List.length_cons] at *
    refine ⟨?_, i2, by omega, by omega, ?_, i6, i7, fun e => ?_, fun e => by rw [hk] at e; exact absurd e (by decide), h.k2⟩
    · simp [nOf]; omega
    · simp [nOf]; omega
    · exact absurd e (by decide)
/-! ### Take -/
inductive TkR (kd n : Int) (B : List UInt8) (L : List ByteArray) (wn : Int) (en ou : Bool) (S : Int) : ByteArray → Bool → Bool → List UInt8 → List ByteArray → Int → Bool → Int → Prop
  | no (h : rdyF kd n wn (nOf B L) en ou = false) : TkR kd n B L wn en ou S noS false false B L wn ou S
  | bytes (j : Nat) (hk : kd = 1) (h : rdyF kd n wn (nOf B L) en ou = true) (e : j = outN n B.length) : TkR kd n B L wn en ou S (strOf (B.take j)) (en && decide (B.length = j)) true (B.drop j) L wn (en && decide (B.length = j)) (S + j)
  | over (hk : kd = 2) (hL : L = []) (he : en = true) (ho : ou = false) : TkR kd n B L wn en ou S noS true true B L wn true S
  | item (X : ByteArray) (R : List ByteArray) (hk : kd = 2) (e : L = X :: R) (h : 0 < wn) : TkR kd n B L wn en ou S X false true B R (wn - 1) false (S + 1)
theorem TkR.ex (n : Int) (hk : kd = 1 ∨ kd = 2) (hi : TI kd m cp B L wn en ou A S D) : ∃ X o is B' L' wn' ou' S', TkR kd n B L wn en ou S X o is B' L' wn' ou' S' := by
  cases hr : rdyF kd n wn (nOf B L) en ou with
  | false => exact ⟨_, _, _, _, _, _, _, _, .no hr⟩
  | true =>
    rcases hk with rfl | rfl
    · exact ⟨_, _, _, _, _, _, _, _, .bytes _ rfl hr rfl⟩
    · have hB := hi.k2 rfl
      subst hB
      cases L with
      | nil =>
        have h2 : (en && !ou) = true := hr
        simp only [Bool.and_eq_true, Bool.not_eq_true'] at h2
        exact ⟨_, _, _, _, _, _, _, _, .over rfl rfl h2.1 h2.2⟩
      | cons x R =>
        have h2 : decide (0 < wn) = true := by simpa [rdyF, nOf] using hr
        exact ⟨_, _, _, _, _, _, _, _, .item x R rfl rfl (of_decide_eq_true h2)⟩
theorem PT.Take {n : Int} {X : ByteArray} {o is ou' : Bool} {B' : List UInt8} {L' : List ByteArray} {wn' S' : Int} (h : PT w b base F kd cp st B L wn en ou A S D) (hr : TkR kd n B L wn en ou S X o is B' L' wn' ou' S') (hc : cOk (nOf B L : Nat) A S D) (hl : kd = 2 → L.length ≤ 1000) (w1 : wn ≤ 2147483647) :
    Calls Tryd.prog 63 #[.pointer (some ⟨b, 0, none⟩), .int .i64 n] w (PTPost w b base F kd cp st (.tuple #[.string X, .bool o, .bool is]) B' L' wn' en ou' A S' D) := by
  cases hr with
  | no hr => exact (TTake_n n _ w (h.Ready n hc false hr)).mono fun _ _ hh => PTPost.same h hh.1 hh.2
  | bytes j hk hr e =>
    subst e
    cases h with
    | bytes h => exact (TTake_y n w h (by simpa [nOf] using hc) (by simpa [nOf] using hr) _ rfl).mono fun _ _ hh => hh.pt st
    | items h => exact absurd hk (by decide)
  | over hk hL he ho =>
    subst hL he ho
    cases h with
    | bytes h => exact absurd hk (by decide)
    | items h => exact (TTake_i0 n w h (by simpa [nOf] using hc)).mono fun _ _ hh => hh.pt
  | item X R hk e hw =>
    subst e
    cases h with
    | items h =>
      have hl2 := hl rfl
      rw [List.length_cons] at hl2
      exact (TTake_i1 n X w h (by simpa [nOf] using hc) (by omega) hw w1).mono fun _ _ hh => hh.pt
theorem TI.take {n : Int} {X : ByteArray} {o is ou' : Bool} {B' : List UInt8} {L' : List ByteArray} {wn' S' : Int} (h : TI kd m cp B L wn en ou A S D) (hr : TkR kd n B L wn en ou S X o is B' L' wn' ou' S') : TI kd m cp B' L' wn' en ou' A S' D := by
  have i1 := h.sum
  have i2 := h.s0
  have i3 := h.d0
  have i4 := h.am
  have i5 := h.cap
  have i6 := h.w0
  have i7 := h.w1
  have i8 := h.o
  unfold nOf at *
  cases hr with
  | no hr => exact h
  | bytes j hk hr e =>
    have hL := h.k1 hk
    subst hL
    have hj := outN_le n B.length
    rw [← e] at hj
    refine ⟨?_, by omega, i3, i4, ?_, i6, i7, fun e => ?_, fun _ => rfl, fun e => by rw [h.k2 e]; simp⟩
    · unfold nOf; rw [List.length_drop]; omega
    · unfold nOf; rw [List.length_drop]; omega
    · simp only [Bool.and_eq_true, decide_eq_true_eq] at e
      exact ⟨e.1, by unfold nOf; rw [List.length_drop, List.length_nil]; omega⟩
  | over hk hL he ho =>
    subst hL
    have hB := h.k2 hk
    subst hB
    exact ⟨by unfold nOf; omega, i2, i3, i4, by unfold nOf; omega, i6, i7, fun _ => ⟨he, rfl⟩, h.k1, h.k2⟩
  | item X R hk e hw =>
    subst e
    rw [List.length_cons] at *
    exact ⟨by unfold nOf; omega, by omega, i3, i4, by unfold nOf; omega, by omega, by omega, fun e => absurd e (by decide), fun e => by rw [hk] at e; exact absurd e (by decide), h.k2⟩
/-! ### New -/
def rightE (kd cp st : Int) : Int := if kd ≠ 1 ∧ kd ≠ 2 then 13 else if cp < 0 ∨ kd = 1 ∧ 4096 < cp ∨ kd = 2 ∧ 64 < cp then 3 else if kd = 2 ∧ (st < 0 ∨ 2 < st) then 2 else 0
def NewPT (w : World) (kd cp st : Int) (x : Ending) (w' : World) : Prop := ∃ b F, x = .returned (.tuple #[.pointer (some ⟨b, 0, none⟩), .int .i64 0]) ∧ PT w' b w.heap.size F kd cp st [] [] 0 false false 0 0 0 ∧ Only Nil w w'
def NewBad (w : World) (e : Int) (x : Ending) (w' : World) : Prop := x = .returned (.tuple #[.pointer none, .int .i64 e]) ∧ Only Nil w w'
set_option maxHeartbeats 2000000 in
theorem TNew_1 (c : Nat) (st : Int) (w : World) (hc : c ≤ 4096) : Calls Tryd.prog 38 #[.int .i64 1, .int .i64 c, .int .i64 st] w (NewPT w 1 c st) :=
  (TNew_bytes c w hc st).mono fun _ _ hh => by
    obtain ⟨b, r, g, row, hx, h, ho⟩ := hh
    exact ⟨b, _, hx, .bytes ⟨h.blk, h.ring, h.hb⟩, ho⟩
set_option maxHeartbeats 2000000 in
theorem TNew_2 (cp st : Int) (w : World) (h0 : 0 ≤ cp) (h1 : cp ≤ 64) (s0 : 0 ≤ st) (s1 : st ≤ 2) : Calls Tryd.prog 38 #[.int .i64 2, .int .i64 cp, .int .i64 st] w (NewPT w 2 cp st) := by
  have hQ := Lib.hid (fun W => Qu.New_any cp st W h0 h1 s0 s1)
  have hD := Lib.hid (fun W => Dem.New_any 2147483647 W (by decide) (by decide))
  have HB := Lib.hid (Blk.new w 111 #[.int .i64 0, .int .i64 0, .int .i64 0, .int .i64 2, .pointer none, .pointer none, .pointer none, .bool false, .bool false])
  have HO := Lib.hid ((Only.refl Nil w).alloc (.cells #[.int .i64 0, .int .i64 0, .int .i64 0, .int .i64 2, .pointer none, .pointer none, .pointer none, .bool false, .bool false] 111))
  unfold Dem.NewDem at hD
  go_enter Tryd.func38, Tryd.ntmps38
  go_wp2_with (first
    | (go_at_call 67; (with_reducible refine (hQ.out _).mono ?_); rintro e w1 ⟨q, rfl, ho1, hzq, hQ1⟩; have hB1 := HB.out.kept ho1 (fun hh => hh); have zb := hB1.lt; have k5 := hB1.cell 5; have f5 := hB1.frozen 5; have HQ1 := Lib.hid hQ1; have HO1 := Lib.hid (HO.out.trans ho1); have HZQ := Lib.hid hzq; have HB1 := Lib.hid (hB1.set 5 (.pointer (some ⟨q, 0, none⟩))); clear ho1 hB1 hQ1 hzq)
    | (go_at_call 68; (with_reducible refine (hD.out _).mono ?_); rintro e w2 ⟨d, rfl, hzd, ho2, hD2⟩; have hB2 := HB1.out.kept ho2 (fun hh => hh); have zb2 := hB2.lt; have k6 := hB2.cell 6; have f6 := hB2.frozen 6; have HO2 := Lib.hid ho2; have HD2 := Lib.hid hD2; have HZD := Lib.hid hzd; have HB2 := Lib.hid hB2; clear ho2 hB2 hD2 hzd)
    )
  go_ret2
  have hzq := HZQ.out
  have hzd := HZD.out
  have hs1 := HO1.out.size
  simp [World.setCell] at hzq hzd
  have hqb : q ≠ w.heap.size := by omega
  have hdb : d ≠ w.heap.size := by omega
  have hQ2 := ((HQ1.out.blk.far (p := ⟨w.heap.size, 5, none⟩) hqb (.pointer (some ⟨q, 0, none⟩))).kept HO2.out (fun hh => hh)).far (p := ⟨w.heap.size, 6, none⟩) hqb (.pointer (some ⟨d, 0, none⟩))
  have hD3 := Blk.far (p := ⟨w.heap.size, 6, none⟩) HD2.out hdb (.pointer (some ⟨d, 0, none⟩))
  exact ⟨w.heap.size, _, rfl, .items (v := .slice none 0 0) ⟨HB2.out.set 6 _, ⟨hQ2, Ow.nil, by omega⟩, hD3, Nat.le_refl _, by omega⟩, ((HO1.out.setNew (Nat.le_refl _) 5 _).trans HO2.out).setNew (Nat.le_refl _) 6 _⟩
theorem TNew_bad (kd cp st e : Int) (w : World) (he : rightE kd cp st = e) (h0 : e ≠ 0) : Calls Tryd.prog 38 #[.int .i64 kd, .int .i64 cp, .int .i64 st] w (NewBad w e) := by
  subst he
  unfold rightE at h0 ⊢
  by_cases h1 : kd ≠ 1 ∧ kd ≠ 2
  · rw [if_pos h1]
    obtain ⟨g1, g2⟩ := h1
    have e1 : (kd == 1) = false := by simpa using g1
    have e2 : (kd == 2) = false := by simpa using g2
    clear g1 g2 h0
    go_enter Tryd.func38, Tryd.ntmps38
    go_wp2
    go_ret2
    exact ⟨rfl, (Only.refl _ _).alloc _⟩
  rw [if_neg h1] at h0 ⊢
  by_cases h2 : cp < 0 ∨ kd = 1 ∧ 4096 < cp ∨ kd = 2 ∧ 64 < cp
  · rw [if_pos h2]
    clear h0
    by_cases k1 : kd = 1
    · subst k1
      by_cases h3 : 4096 < cp
      · clear h1 h2
        go_enter Tryd.func38, Tryd.ntmps38
        go_wp2
        go_ret2
        exact ⟨rfl, (Only.refl _ _).alloc _⟩
      · have h4 : cp < 0 := by omega
        have hR := Lib.hid (fun W => New_out cp W (.inl h4))
        have f5 := (Blk.new w 111 #[.int .i64 0, .int .i64 0, .int .i64 0, .int .i64 1, .pointer none, .pointer none, .pointer none, .bool false, .bool false]).frozen 4
        clear h1 h2
        go_enter Tryd.func38, Tryd.ntmps38
        go_wp2_with (first
          | (go_at_call 66; (with_reducible refine (hR.out _).mono ?_); rintro e w1 ⟨rfl, rfl⟩)
          )
        go_ret2
        exact ⟨rfl, (Only.refl _ _).alloc _⟩
    · obtain rfl : kd = 2 := by omega
      have hR := Lib.hid (fun W => Qu.New_range cp st W (by omega))
      have hD := Lib.hid (fun W => Dem.New_any 2147483647 W (by decide) (by decide))
      unfold Dem.NewDem at hD
      have HB := Lib.hid (Blk.new w 111 #[.int .i64 0, .int .i64 0, .int .i64 0, .int .i64 2, .pointer none, .pointer none, .pointer none, .bool false, .bool false])
      have HO := Lib.hid ((Only.refl Nil w).alloc (.cells #[.int .i64 0, .int .i64 0, .int .i64 0, .int .i64 2, .pointer none, .pointer none, .pointer none, .bool false, .bool false] 111))
      clear h1 h2 k1
      go_enter Tryd.func38, Tryd.ntmps38
      go_wp2_with (first
        | (go_at_call 67; (with_reducible refine (hR.out _).mono ?_); rintro e w1 ⟨rfl, rfl⟩)
        | (go_at_call 68; (with_reducible refine (hD.out _).mono ?_); rintro e w2 ⟨d, rfl, hzd, ho2, hD2⟩; have hB2 := HB.out.kept ho2 (fun hh => hh); have zb2 := hB2.lt; have k6 := hB2.cell 6; have f6 := hB2.frozen 6; have HO2 := Lib.hid (HO.out.trans ho2); clear ho2 hB2 hD2 hzd)
        )
      go_ret2
      exact ⟨rfl, HO2.out.setNew (Nat.le_refl _) 6 _⟩
  rw [if_neg h2] at h0 ⊢
  by_cases h3 : kd = 2 ∧ (st < 0 ∨ 2 < st)
  · rw [if_pos h3]
    obtain ⟨rfl, h4⟩ := h3
    have hR := Lib.hid (fun W => Qu.New_arg cp st W (by omega) (by omega) h4)
    have hD := Lib.hid (fun W => Dem.New_any 2147483647 W (by decide) (by decide))
    unfold Dem.NewDem at hD
    have HB := Lib.hid (Blk.new w 111 #[.int .i64 0, .int .i64 0, .int .i64 0, .int .i64 2, .pointer none, .pointer none, .pointer none, .bool false, .bool false])
    have HO := Lib.hid ((Only.refl Nil w).alloc (.cells #[.int .i64 0, .int .i64 0, .int .i64 0, .int .i64 2, .pointer none, .pointer none, .pointer none, .bool false, .bool false] 111))
    clear h1 h2 h4 h0
    go_enter Tryd.func38, Tryd.ntmps38
    go_wp2_with (first
      | (go_at_call 67; (with_reducible refine (hR.out _).mono ?_); rintro e w1 ⟨rfl, rfl⟩)
      | (go_at_call 68; (with_reducible refine (hD.out _).mono ?_); rintro e w2 ⟨d, rfl, hzd, ho2, hD2⟩; have hB2 := HB.out.kept ho2 (fun hh => hh); have zb2 := hB2.lt; have k6 := hB2.cell 6; have f6 := hB2.frozen 6; have HO2 := Lib.hid (HO.out.trans ho2); clear ho2 hB2 hD2 hzd)
      )
    go_ret2
    exact ⟨rfl, HO2.out.setNew (Nat.le_refl _) 6 _⟩
  · rw [if_neg h3] at h0
    exact absurd rfl h0
theorem TNew_ok (kd cp st : Int) (w : World) (he : rightE kd cp st = 0) : Calls Tryd.prog 38 #[.int .i64 kd, .int .i64 cp, .int .i64 st] w (NewPT w kd cp st) := by
  unfold rightE at he
  by_cases h1 : kd ≠ 1 ∧ kd ≠ 2
  · rw [if_pos h1] at he
    exact absurd he (by decide)
  rw [if_neg h1] at he
  by_cases h2 : cp < 0 ∨ kd = 1 ∧ 4096 < cp ∨ kd = 2 ∧ 64 < cp
  · rw [if_pos h2] at he
    exact absurd he (by decide)
  rw [if_neg h2] at he
  by_cases k1 : kd = 1
  · subst k1
    obtain ⟨c, rfl⟩ : ∃ c : Nat, cp = c := ⟨cp.toNat, by omega⟩
    exact TNew_1 c st w (by omega)
  · obtain rfl : kd = 2 := by omega
    by_cases h3 : st < 0 ∨ 2 < st
    · rw [if_pos ⟨rfl, h3⟩] at he
      exact absurd he (by decide)
    · exact TNew_2 cp st w (by omega) (by omega) (by omega) (by omega)
end
end Go.Proofs.YtjhjfgelcbphjaaDoor
