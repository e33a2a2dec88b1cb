/- Moves that are read: what bytes are as moves, as plain data. Scanning, as functions of the bytes that are left. -/
import Derived.Test.YtamocachpjljdaaMove
namespace Go.Proofs.Ytamocachpjljdaa
open Go.RowKit

def Sl (w : World) (b : Nat) (T : List UInt8) (bad : Bool) : Prop := Sc w b (strOf T) bad
def scB (n : Int) (T : List UInt8) (bad : Bool) : Bool := bad || decide ((T.length : Int) < n)
def scT (n : Int) (T : List UInt8) (bad : Bool) : List UInt8 := if scB n T bad = true then T else T.drop n.toNat
def scV (n : Int) (T : List UInt8) (bad : Bool) : Int := if scB n T bad = true then 0 else decN (T.take n.toNat)
def scS (n : Int) (T : List UInt8) (bad : Bool) : ByteArray := if scB n T bad = true then noS else strOf (T.take n.toNat)
theorem sc_no {n : Int} {T : List UInt8} {bad : Bool} (h : scB n T bad = false) : bad = false ∧ n ≤ T.length ∧ scT n T bad = T.drop n.toNat ∧ scV n T bad = decN (T.take n.toNat) ∧ scS n T bad = strOf (T.take n.toNat) := by
  refine ⟨?_, ?_, ?_, ?_, ?_⟩
  · cases bad
    · rfl
    · cases h
  · cases bad
    · have := of_decide_eq_false (by simpa [scB] using h : decide ((T.length : Int) < n) = false)
      omega
    · cases h
  · unfold scT; rw [h]; rfl
  · unfold scV; rw [h]; rfl
  · unfold scS; rw [h]; rfl
theorem sc_yes {n : Int} {T : List UInt8} (h : n ≤ T.length) : scB n T false = false := by
  simp [scB]
  omega
theorem scV_range (n : Int) (T : List UInt8) (bad : Bool) (h0 : 0 ≤ n) (h4 : n ≤ 4) : 0 ≤ scV n T bad ∧ scV n T bad < 256 ^ n.toNat := by
  unfold scV
  split
  · exact ⟨Int.le_refl _, Int.pow_pos (by decide)⟩
  · rename_i h
    have h' : scB n T bad = false := by simpa using h
    obtain ⟨-, h2, -⟩ := sc_no h'
    have := decN_range (T.take n.toNat)
    rw [List.length_take, Nat.min_eq_left (by omega)] at this
    exact this
theorem SUt {w : World} {b : Nat} {T : List UInt8} {bad : Bool} (n : Nat) (h1 : 1 ≤ n) (h4 : n ≤ 4) (h : Sl w b T bad) : Calls Try.prog 31 #[.pointer (some ⟨b, 0, none⟩), .int .i64 n] w fun x w' => x = .returned (.int .i64 (scV n T bad)) ∧ Only (One b) w w' ∧ Sl w' b (scT n T bad) (scB n T bad) := by
  have hsz := strOf_size T
  cases bad
  · by_cases hn : T.length < n
    · have e : scB n T false = true := by simp [scB]; omega
      refine (SU_out b _ n w h (.inr (.inr (by rw [hsz]; omega)))).mono ?_
      rintro x w' ⟨hx, ho, hs⟩
      refine ⟨by rw [hx]; unfold scV; rw [e]; rfl, ho, ?_⟩
      unfold scT
      rw [e]
      exact hs
    · have e : scB n T false = false := sc_yes (by omega)
      obtain ⟨-, -, e1, e2, -⟩ := sc_no e
      refine (SU_in b _ n w h h1 h4 (by rw [hsz]; omega)).mono ?_
      rintro x w' ⟨hx, ho, hs⟩
      rw [ext_drop] at hs
      refine ⟨by rw [hx, e2]; rfl, ho, ?_⟩
      rw [e, e1]
      exact hs
  · refine (SU_bad b _ n w h).mono ?_
    rintro x w' ⟨hx, ho, hs⟩
    exact ⟨hx, ho, hs⟩
theorem Taket {w : World} {b : Nat} {T : List UInt8} {bad : Bool} (n : Int) (h0 : 0 ≤ n) (h : Sl w b T bad) : Calls Try.prog 32 #[.pointer (some ⟨b, 0, none⟩), .int .i64 n] w fun x w' => x = .returned (.string (scS n T bad)) ∧ Only (One b) w w' ∧ Sl w' b (scT n T bad) (scB n T bad) := by
  have hsz := strOf_size T
  cases bad
  · by_cases hn : (T.length : Int) < n
    · have e : scB n T false = true := by simp [scB]; omega
      refine (Take_out b _ n w h (.inr (by rw [hsz]; omega))).mono ?_
      rintro x w' ⟨hx, ho, hs⟩
      refine ⟨by rw [hx]; unfold scS; rw [e]; rfl, ho, ?_⟩
      unfold scT
      rw [e]
      exact hs
    · have e : scB n T false = false := sc_yes (by omega)
      obtain ⟨-, -, e1, -, e3⟩ := sc_no e
      obtain ⟨m, rfl⟩ : ∃ m : Nat, n = m := ⟨n.toNat, by omega⟩
      refine (Take_in b _ m w h (by rw [hsz]; omega)).mono ?_
      rintro x w' ⟨hx, ho, hs⟩
      rw [ext_drop] at hs
      rw [ext_take] at hx
      refine ⟨by rw [hx, e3]; rfl, ho, ?_⟩
      rw [e, e1]
      exact hs
  · refine (Take_bad b _ n w h).mono ?_
    rintro x w' ⟨hx, ho, hs⟩
    exact ⟨hx, ho, hs⟩
/-- the first move of bytes -/
def lenS (T : List UInt8) : Int := decN ((T.drop 10).take 2)
def lenAt (T : List UInt8) : Nat := 12 + (lenS T).toNat
def endAt (T : List UInt8) : Int := decN ((T.drop 1).take 1)
def mvAt (T : List UInt8) : Mv := ⟨decN (T.take 1), endAt T == 1, decN ((T.drop 2).take 4), decN ((T.drop 6).take 4), strOf ((T.drop 12).take (lenS T).toNat)⟩
def errAt (T : List UInt8) : Int := if T.length < 12 then 5 else if T.length < lenAt T then 5 else if 1 < endAt T ∨ rightM (mvAt T) = false then 6 else 0
/-- what is scanned, one by one -/
structure Fd where
  T1 : List UInt8
  b1 : Bool
  T2 : List UInt8
  b2 : Bool
  T3 : List UInt8
  b3 : Bool
  T4 : List UInt8
  b4 : Bool
  T5 : List UInt8
  b5 : Bool
  T6 : List UInt8
  b6 : Bool
  v1 : Int
  v2 : Int
  v3 : Int
  v4 : Int
  v5 : Int
  s : ByteArray
def fdOf (T : List UInt8) : Fd :=
  let T1 := scT 1 T false
  let b1 := scB 1 T false
  let T2 := scT 1 T1 b1
  let b2 := scB 1 T1 b1
  let T3 := scT 4 T2 b2
  let b3 := scB 4 T2 b2
  let T4 := scT 4 T3 b3
  let b4 := scB 4 T3 b3
  let T5 := scT 2 T4 b4
  let b5 := scB 2 T4 b4
  let v5 := scV 2 T4 b4
  ⟨T1, b1, T2, b2, T3, b3, T4, b4, T5, b5, scT v5 T5 b5, scB v5 T5 b5, scV 1 T false, scV 1 T1 b1, scV 4 T2 b2, scV 4 T3 b3, v5, scS v5 T5 b5⟩
theorem sc_mid (T : List UInt8) (i n : Nat) (h : i + n ≤ T.length) : scB n (T.drop i) false = false ∧ scT n (T.drop i) false = T.drop (i + n) ∧ scV n (T.drop i) false = decN ((T.drop i).take n) := by
  have b : scB n (T.drop i) false = false := sc_yes (by rw [List.length_drop]; omega)
  obtain ⟨-, -, t, v, -⟩ := sc_no b
  exact ⟨b, by rw [t, List.drop_drop]; rfl, v⟩
theorem fd_at {T : List UInt8} (h : 12 ≤ T.length) : fdOf T = ⟨T.drop 1, false, T.drop 2, false, T.drop 6, false, T.drop 10, false, T.drop 12, false, scT (lenS T) (T.drop 12) false, scB (lenS T) (T.drop 12) false, decN (T.take 1), endAt T, decN ((T.drop 2).take 4), decN ((T.drop 6).take 4), lenS T, scS (lenS T) (T.drop 12) false⟩ := by
  have b1 : scB 1 T false = false := (sc_mid T 0 1 (by omega)).1
  have t1 : scT 1 T false = T.drop 1 := (sc_mid T 0 1 (by omega)).2.1
  have v1 : scV 1 T false = decN (T.take 1) := (sc_mid T 0 1 (by omega)).2.2
  have b2 : scB 1 (T.drop 1) false = false := (sc_mid T 1 1 (by omega)).1
  have t2 : scT 1 (T.drop 1) false = T.drop 2 := (sc_mid T 1 1 (by omega)).2.1
  have v2 : scV 1 (T.drop 1) false = endAt T := (sc_mid T 1 1 (by omega)).2.2
  have b3 : scB 4 (T.drop 2) false = false := (sc_mid T 2 4 (by omega)).1
  have t3 : scT 4 (T.drop 2) false = T.drop 6 := (sc_mid T 2 4 (by omega)).2.1
  have v3 : scV 4 (T.drop 2) false = decN ((T.drop 2).take 4) := (sc_mid T 2 4 (by omega)).2.2
  have b4 : scB 4 (T.drop 6) false = false := (sc_mid T 6 4 (by omega)).1
  have t4 : scT 4 (T.drop 6) false = T.drop 10 := (sc_mid T 6 4 (by omega)).2.1
  have v4 : scV 4 (T.drop 6) false = decN ((T.drop 6).take 4) := (sc_mid T 6 4 (by omega)).2.2
  have b5 : scB 2 (T.drop 10) false = false := (sc_mid T 10 2 (by omega)).1
  have t5 : scT 2 (T.drop 10) false = T.drop 12 := (sc_mid T 10 2 (by omega)).2.1
  have v5 : scV 2 (T.drop 10) false = lenS T := (sc_mid T 10 2 (by omega)).2.2
  unfold fdOf
  simp only [b1, t1, v1, b2, t2, v2, b3, t3, v3, b4, t4, v4, b5, t5, v5]
theorem fd_no {T : List UInt8} (h : (fdOf T).b6 = false) : 12 ≤ T.length ∧ lenAt T ≤ T.length ∧ (fdOf T).T6 = T.drop (lenAt T) ∧ mvAt T = ⟨(fdOf T).v1, (fdOf T).v2 == 1, (fdOf T).v3, (fdOf T).v4, (fdOf T).s⟩ ∧ endAt T = (fdOf T).v2 := by
  have e12 : 12 ≤ T.length := by
    simp only [fdOf] at h
    have h := (sc_no h).1
    obtain ⟨h, l5, -⟩ := sc_no h
    obtain ⟨h, l4, t4, -⟩ := sc_no h
    obtain ⟨h, l3, t3, -⟩ := sc_no h
    obtain ⟨h, l2, t2, -⟩ := sc_no h
    obtain ⟨-, l1, t1, -⟩ := sc_no h
    have L4 := congrArg List.length t4
    have L3 := congrArg List.length t3
    have L2 := congrArg List.length t2
    have L1 := congrArg List.length t1
    rw [List.length_drop] at L1 L2 L3 L4
    have e4 : (4 : Int).toNat = 4 := rfl
    have e1 : (1 : Int).toNat = 1 := rfl
    rw [e4] at L4 L3
    rw [e1] at L1 L2
    omega
  rw [fd_at e12] at h ⊢
  simp only at h ⊢
  have r := decN_range ((T.drop 10).take 2)
  have eL : lenS T = decN ((T.drop 10).take 2) := rfl
  obtain ⟨-, l6, t6, -, s6⟩ := sc_no h
  rw [List.length_drop] at l6
  refine ⟨e12, by unfold lenAt; omega, ?_, ?_, trivial⟩
  · rw [t6, List.drop_drop]; rfl
  · rw [s6]; rfl
theorem fd_yes {T : List UInt8} (h12 : 12 ≤ T.length) (hl : lenAt T ≤ T.length) : (fdOf T).b6 = false := by
  rw [fd_at h12]
  apply sc_yes
  have r := decN_range ((T.drop 10).take 2)
  unfold lenAt at hl
  have eL : lenS T = decN ((T.drop 10).take 2) := rfl
  rw [List.length_drop]
  omega
/-- bytes as moves -/
def rdG : Nat → List UInt8 → Nat → List Mv × Nat × Int
  | 0, _, _ => ([], 0, 0)
  | f + 1, T, k => if T.length = 0 then ([], 0, 0) else if errAt T ≠ 0 then ([], 0, errAt T) else if 256 ≤ k then ([], 0, 4) else
    (mvAt T :: (rdG f (T.drop (lenAt T)) (k + 1)).1, lenAt T + (rdG f (T.drop (lenAt T)) (k + 1)).2.1, (rdG f (T.drop (lenAt T)) (k + 1)).2.2)
theorem rdG_fuel : ∀ (f g : Nat) (T : List UInt8) (k : Nat), T.length ≤ f → T.length ≤ g → rdG f T k = rdG g T k
  | 0, 0, _, _, _, _ => rfl
  | 0, g + 1, T, k, h, _ => by simp only [rdG]; rw [if_pos (by omega)]
  | f + 1, 0, T, k, _, h => by simp only [rdG]; rw [if_pos (by omega)]
  | f + 1, g + 1, T, k, hf, hg => by
    simp only [rdG]
    have e : rdG f (T.drop (lenAt T)) (k + 1) = rdG g (T.drop (lenAt T)) (k + 1) := rdG_fuel f g _ _ (by rw [List.length_drop]; unfold lenAt; omega) (by rw [List.length_drop]; unfold lenAt; omega)
    rw [e]
def rd (T : List UInt8) (k : Nat) : List Mv × Nat × Int := rdG T.length T k
theorem rd_end {T : List UInt8} (k : Nat) (h : T.length = 0) : rd T k = ([], 0, 0) := by
  unfold rd
  rw [h]
  rfl
theorem rd_err {T : List UInt8} (k : Nat) (h : T.length ≠ 0) (he : errAt T ≠ 0) : rd T k = ([], 0, errAt T) := by
  unfold rd
  obtain ⟨f, hf⟩ : ∃ f, T.length = f + 1 := ⟨T.length - 1, by omega⟩
  rw [hf]
  simp only [rdG]
  rw [if_neg h, if_pos he]
theorem rd_big {T : List UInt8} (k : Nat) (h : T.length ≠ 0) (he : errAt T = 0) (hk : 256 ≤ k) : rd T k = ([], 0, 4) := by
  unfold rd
  obtain ⟨f, hf⟩ : ∃ f, T.length = f + 1 := ⟨T.length - 1, by omega⟩
  rw [hf]
  simp only [rdG]
  rw [if_neg h, if_neg (by simpa using he), if_pos hk]
theorem rd_step {T : List UInt8} (k : Nat) (h : T.length ≠ 0) (he : errAt T = 0) (hk : k < 256) : rd T k = (mvAt T :: (rd (T.drop (lenAt T)) (k + 1)).1, lenAt T + (rd (T.drop (lenAt T)) (k + 1)).2.1, (rd (T.drop (lenAt T)) (k + 1)).2.2) := by
  unfold rd
  obtain ⟨f, hf⟩ : ∃ f, T.length = f + 1 := ⟨T.length - 1, by omega⟩
  rw [rdG_fuel (T.drop (lenAt T)).length f _ (k + 1) (Nat.le_refl _) (by rw [List.length_drop]; unfold lenAt; omega)]
  rw [hf]
  simp only [rdG]
  rw [if_neg h, if_neg (by simpa using he), if_neg (by omega)]
/-- what Read tells -/
def rdOut (T : List UInt8) : List Mv × Nat × Int := if (rd T 0).2.2 = 0 then rd T 0 else ([], (rd T 0).2.1, (rd T 0).2.2)
end Go.Proofs.Ytamocachpjljdaa
