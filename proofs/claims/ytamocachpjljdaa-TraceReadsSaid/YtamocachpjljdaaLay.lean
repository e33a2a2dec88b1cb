/- What Lay of package octet does: for every list of pieces. No condition. -/
import Derived.Test.YtamocachpjljdaaOctet
namespace Go.Proofs.Ytamocachpjljdaa
open Go.RowKit

def byteAt (N : Int) (k : Nat) : UInt8 := UInt8.ofNat ((N / 256 ^ k) % 256).toNat
theorem byteAt_toNat (N : Int) (k : Nat) : ((byteAt N k).toNat : Int) = (N / 256 ^ k) % 256 := by
  unfold byteAt
  have h1 : 0 ≤ (N / 256 ^ k) % 256 := Int.emod_nonneg _ (by decide)
  have h2 : (N / 256 ^ k) % 256 < 256 := Int.emod_lt_of_pos _ (by decide)
  rw [UInt8.toNat_ofNat']
  omega
/-- a number's bytes, the higher first -/
def numB (N : Int) : Nat → List UInt8
  | 0 => []
  | k + 1 => byteAt N k :: numB N k
theorem numB_length (N : Int) (k : Nat) : (numB N k).length = k := by induction k with | zero => rfl | succ k ih => simp [numB, ih]
theorem numB_get (N : Int) : ∀ (k j : Nat), j < k → (numB N k)[j]? = some (byteAt N (k - 1 - j))
  | 0, _, h => absurd h (Nat.not_lt_zero _)
  | k + 1, 0, _ => by simp [numB]
  | k + 1, j + 1, h => by
    rw [numB, List.getElem?_cons_succ, numB_get N k j (by omega)]
    congr 2
    omega
theorem take_num (N : Int) (k j : Nat) (h : j < k) : (numB N k).take (j + 1) = (numB N k).take j ++ [byteAt N (k - 1 - j)] := by
  rw [List.take_add_one, numB_get N k j h]
  rfl
theorem wrap_u8 (x : Int) : IntKind.u8.wrap x = x % 256 := by simp [IntKind.wrap, IntKind.signed, IntKind.bits]
def bytesOf (p : Pc) : List UInt8 := if p.W = 0 then p.S.data.toList else numB p.N p.W.toNat
def layL (P : List Pc) : List UInt8 := P.flatMap bytesOf
def chkAll : List Pc → Int
  | [] => 0
  | p :: r => if chkE' p = 0 then chkAll r else chkE' p
def layE (P : List Pc) : Int := if chkAll P = 0 then (if 4096 < sumL P then 4 else 0) else chkAll P
def layS (P : List Pc) : ByteArray := if layE P = 0 then strOf (layL P) else noS
theorem chkAll_all : ∀ (P : List Pc), chkAll P = 0 → ∀ p ∈ P, chkE' p = 0
  | [], _, _, h => by cases h
  | q :: r, h, p, hp => by
    unfold chkAll at h
    by_cases e : chkE' q = 0
    · rw [if_pos e] at h
      rcases List.mem_cons.1 hp with rfl | hp
      · exact e
      · exact chkAll_all r h p hp
    · rw [if_neg e] at h
      exact absurd h e
def LayPost (w : World) (P : List Pc) (x : Ending) (w' : World) : Prop := x = .returned (.tuple #[.string (layS P), .int .i64 (layE P)]) ∧ Only Nil w w'
theorem chkE_cases (p : Pc) : chkE' p = 0 ∨ chkE' p = 2 ∨ chkE' p = 3 := by
  unfold chkE'
  repeat' split
  all_goals simp
theorem u8_info : (Try.prog.info? 5).map (fun i => (i.zero, i.size, i.bytes)) = some (some (.int .u8 0), 1, 1) := by kernel_rfl
theorem bytesOf_len {p : Pc} (h : chkE' p = 0) : ((bytesOf p).length : Int) = lenP p := by
  unfold chkE' at h
  unfold bytesOf lenP
  split at h
  · omega
  · rename_i h1
    by_cases h2 : p.W = 0
    · rw [if_pos h2, if_pos h2]
      simp
    · rw [if_neg h2, if_neg h2, if_neg h1, numB_length]
      omega
theorem sumL_cons (p : Pc) (r : List Pc) : sumL (p :: r) = min (lenP p) 4097 + sumL r := by simp [sumL]
theorem layL_len : ∀ (P : List Pc), chkAll P = 0 → sumL P ≤ 4096 → ((layL P).length : Int) = sumL P
  | [], _, _ => rfl
  | p :: r, h, hs => by
    unfold chkAll at h
    rw [sumL_cons] at hs ⊢
    have h0 := sumL_nonneg r
    by_cases e : chkE' p = 0
    · rw [if_pos e] at h
      have h1 := layL_len r h (by have := lenP_nonneg p; omega)
      have h2 := bytesOf_len e
      unfold layL at h1 ⊢
      rw [List.flatMap_cons, List.length_append]
      omega
    · rw [if_neg e] at h
      exact absurd h e
theorem layL_snoc (P : List Pc) (k : Nat) (p : Pc) (h : P[k]? = some p) : layL (P.take (k + 1)) = layL (P.take k) ++ bytesOf p := by
  unfold layL
  rw [List.take_add_one, h, List.flatMap_append]
  simp
theorem layL_take_len (P : List Pc) (k : Nat) : (layL (P.take k)).length ≤ (layL P).length := by
  have : layL P = layL (P.take k) ++ layL (P.drop k) := by
    unfold layL
    rw [← List.flatMap_append, List.take_append_drop]
  rw [this, List.length_append]
  omega

/-- pieces: the elements of a slice -/
def encPc (p : Pc) : List Value := [.int .i64 p.N, .int .i64 p.W, .string p.S]
theorem pcsAt_of {w : World} {A : Option Addr} {P : List Pc} (h : Sq encPc 3 w w.heap.size A P) (hok : ∀ p ∈ P, p.ok) : PcsAt w w.heap.size A P := fun hl => by
  obtain ⟨b, off, e, hb, hc⟩ := h hl
  refine ⟨b, off, e, hb, fun i p hp => ?_⟩
  have hi : p ∈ P := List.mem_of_getElem? hp
  exact ⟨hok p hi, hc i p hp 0 (by decide), hc i p hp 1 (by decide), hc i p hp 2 (by decide)⟩
theorem PcsAt.go {w w' : World} {A : Option Addr} {P : List Pc} (h : PcsAt w w.heap.size A P) (ho : Only Nil w w') : PcsAt w' w'.heap.size A P := fun hl => by
  obtain ⟨b, off, e, hb, hc⟩ := h hl
  have hB := ho.below (Nat.le_refl _) (fun _ _ hh => hh)
  have hs := ho.size
  refine ⟨b, off, e, by omega, fun i p hp => ?_⟩
  obtain ⟨h0, h1, h2, h3⟩ := hc i p hp
  exact ⟨h0, (hB.cell (p := ⟨b, _, none⟩) hb).trans h1, (hB.cell (p := ⟨b, _, none⟩) hb).trans h2, (hB.cell (p := ⟨b, _, none⟩) hb).trans h3⟩
theorem chkAll_step {P : List Pc} {k : Nat} {p : Pc} (hp : P[k]? = some p) : chkAll (P.drop k) = if chkE' p = 0 then chkAll (P.drop (k + 1)) else chkE' p := by
  have hk := (List.getElem?_eq_some_iff.1 hp).1
  have : P.drop k = p :: P.drop (k + 1) := by
    rw [List.drop_eq_getElem_cons hk]
    congr 1
    have := List.getElem?_eq_getElem hk
    rw [this] at hp
    exact Option.some.inj hp
  rw [this, chkAll]

set_option maxHeartbeats 4000000 in
/-- the first loop: one piece is wrong -/
theorem Lay_bad (A : Option Addr) (cap : Nat) (P : List Pc) (w : World) (hP : PcsAt w w.heap.size A P) (hlen : P.length ≤ 9223372036854775807) (hbad : chkAll P ≠ 0) :
    Calls Try.prog 18 #[.slice A P.length cap] w (LayPost w P) := by
  have e1 : Hid (layE P = chkAll P) := Lib.hid (by unfold layE; rw [if_neg hbad])
  have e2 : Hid (layS P = noS) := Lib.hid (by unfold layS; rw [e1.out, if_neg hbad])
  have hbad' := Lib.hid hbad
  clear hbad
  generalize hn : P.length = n at hlen
  have hn' : Hid (P.length = n) := hn
  clear hn
  go_enter Try.func18, Try.ntmps18
  go_wp2
  go_loopw [14] (fun ii wr => ∃ (k : Nat), k ≤ n ∧ ii = .int .i64 k ∧ Hid (chkAll (P.drop k) = chkAll P) ∧ Only Nil w wr) (fun ii _ => n - (intOf ii).toNat)
  case atStart => exact ⟨0, Nat.zero_le _, rfl, Lib.hid rfl, Only.refl _ _⟩
  case round =>
    obtain ⟨k, hk, rfl, hc, hB⟩ := hrel
    by_cases hlt : k < n
    · obtain ⟨b, off, rfl, hb, hcc⟩ := (hP.go hB) (by rw [hn'.out]; omega)
      have hp : P[k]? = some (P[k]'(by rw [hn'.out]; exact hlt)) := List.getElem?_eq_getElem _
      generalize P[k]'(by rw [hn'.out]; exact hlt) = p at hp
      obtain ⟨hok, f0, f1, f2⟩ := hcc k p hp
      have hst := chkAll_step hp
      have hch := fun (W : World) => check_any p W hok
      by_cases h0 : chkE' p = 0
      · rw [if_pos h0] at hst
        rw [h0] at hch
        have hst' := Lib.hid (hst.symm.trans hc.out)
        obtain ⟨N, W, S⟩ := p
        unfold Pc.val at hch
        dsimp only at f0 f1 f2 hch
        clear hst h0 hp hcc hc
        go_wp2_with (first
          | (go_at_call 27; (with_reducible refine (hch _).mono ?_); rintro e w1 ⟨rfl, ho⟩)
          )
        go_roundw
        case rel => exact ⟨k + 1, by omega, by go_num, hst', (hB.alloc _).trans ho⟩
        case measure => simp [intOf]; omega
      · rw [if_neg h0] at hst
        have hE := Lib.hid (hst.symm.trans hc.out)
        obtain ⟨N, W, S⟩ := p
        have hc23 := chkE_cases ⟨N, W, S⟩
        unfold Pc.val at hch
        dsimp only at f0 f1 f2 hch
        generalize chkE' ⟨N, W, S⟩ = E at hch hE h0 hc23
        have hE1 : (E != 0) = true := by simpa using h0
        clear hst hp hcc hc h0 hc23
        go_wp2_with (first
          | (go_at_call 27; (with_reducible refine (hch _).mono ?_); rintro e w1 ⟨rfl, ho⟩)
          )
        go_ret2
        exact ⟨by rw [e1.out, e2.out, ← hE.out]; rfl, (hB.alloc _).trans ho⟩
    · exfalso
      have := hc.out
      rw [List.drop_eq_nil_of_le (by rw [hn'.out]; omega)] at this
      exact hbad'.out this.symm

theorem hmake (n : Nat) (hn : n ≤ 4096) (w : World) : (Instr.makeSlice 43 (.int .i64 0) (.int .i64 (n : Int))).run Try.prog w = .ok (.slice (some ⟨w.heap.size, 0, none⟩) 0 n) (w.alloc (.cells (madeCells #[.int .u8 0] n) 5)) := by
  obtain ⟨i, hi, hz, hs, hb⟩ := info_parts u8_info
  have := run_make (P := Try.prog) w 43 5 i (.int .u8 0) Try.underlying43 hi hz .i64 .i64 0 n (by omega) (by omega) (by rw [hb]; omega) (by omega)
  rw [hs] at this
  simpa [Value.cells] using this
set_option maxHeartbeats 8000000 in
/-- all pieces may be: too many bytes, or all of them -/
theorem Lay_right (A : Option Addr) (cap : Nat) (P : List Pc) (w : World) (hP : PcsAt w w.heap.size A P) (hlen : P.length ≤ 9223372036854775807) (hgood : chkAll P = 0) :
    Calls Try.prog 18 #[.slice A P.length cap] w (LayPost w P) := by
  have hgood' := Lib.hid hgood
  have hsz := fun (W : World) (h : PcsAt W W.heap.size A P) => Size_any A cap P W h hlen
  clear hgood
  generalize hn : P.length = n at hlen hsz
  have hn' : Hid (P.length = n) := hn
  clear hn
  go_enter Try.func18, Try.ntmps18
  go_wp2
  go_loopw [14] (fun ii wr => ∃ (k : Nat), k ≤ n ∧ ii = .int .i64 k ∧ Hid (chkAll (P.drop k) = 0) ∧ Only Nil w wr) (fun ii _ => n - (intOf ii).toNat)
  case atStart => exact ⟨0, Nat.zero_le _, rfl, hgood', Only.refl _ _⟩
  case round =>
    obtain ⟨k, hk, rfl, hc, hB⟩ := hrel
    by_cases hlt : k < n
    · obtain ⟨b, off, rfl, hb, hcc⟩ := (hP.go hB) (by rw [hn'.out]; omega)
      have hp : P[k]? = some (P[k]'(by rw [hn'.out]; exact hlt)) := List.getElem?_eq_getElem _
      generalize P[k]'(by rw [hn'.out]; exact hlt) = p at hp
      obtain ⟨hok, f0, f1, f2⟩ := hcc k p hp
      have hst := chkAll_step hp
      have hch := fun (W : World) => check_any p W hok
      by_cases h0 : chkE' p = 0
      · rw [if_pos h0] at hst
        rw [h0] at hch
        have hst' := Lib.hid (hst.symm.trans hc.out)
        obtain ⟨N, W, S⟩ := p
        unfold Pc.val at hch
        dsimp only at f0 f1 f2 hch
        clear hst h0 hp hcc hc hsz
        go_wp2_with (first
          | (go_at_call 27; (with_reducible refine (hch _).mono ?_); rintro e w1 ⟨rfl, ho⟩)
          )
        go_roundw
        case rel => exact ⟨k + 1, by omega, by go_num, hst', (hB.alloc _).trans ho⟩
        case measure => simp [intOf]; omega
      · rw [if_neg h0] at hst
        exact absurd (hst.symm.trans hc.out) h0
    · have hz0 := sumL_nonneg P
      by_cases hbig : 4096 < sumL P
      · have e1 : Hid (layE P = 4) := Lib.hid (by unfold layE; rw [if_pos hgood'.out, if_pos hbig])
        have e2 : Hid (layS P = noS) := Lib.hid (by unfold layS; rw [e1.out]; rfl)
        have e3 : sizeF P = 4097 := by unfold sizeF; omega
        rw [e3] at hsz
        clear hbig hz0 e3
        go_wp2_with (first
          | (go_at_call 28; (with_reducible refine (hsz _ (hP.go hB)).mono ?_); rintro e w1 ⟨rfl, ho⟩)
          )
        go_ret2
        exact ⟨by rw [e1.out, e2.out]; rfl, hB.trans ho⟩
      · have e1 : Hid (layE P = 0) := Lib.hid (by unfold layE; rw [if_pos hgood'.out, if_neg hbig])
        have e2 : Hid (layS P = strOf (layL P)) := Lib.hid (by unfold layS; rw [e1.out]; rfl)
        obtain ⟨m, hm⟩ : ∃ m : Nat, sumL P = m := ⟨(sumL P).toNat, by omega⟩
        have hm4 : m ≤ 4096 := by omega
        have e3 : sizeF P = m := by unfold sizeF; omega
        have hll : (layL P).length = m := by have := layL_len P hgood'.out (by omega); omega
        have hll' := Lib.hid hll
        have hmk := hmake m hm4
        rw [e3] at hsz
        have h4 : decide (4096 < (m : Int)) = false := by simp; omega
        clear hbig hz0 e3 hll hm
        go_wp2_with (first
          | (go_at_call 28; (with_reducible refine (hsz _ (hP.go hB)).mono ?_); rintro e w1 ⟨rfl, ho⟩; have hx1 := hB.trans ho)
          )
        go_loopw [8, 32] (fun ov ii wr => ∃ (k : Nat), k ≤ n ∧ ii = .int .i64 k ∧ Ow encB 1 wr w.heap.size 5 ov (layL (P.take k)) ∧ Below w.heap.size w wr) (fun _ ii _ => n - (intOf ii).toNat)
        case atStart =>
          refine ⟨0, Nat.zero_le _, rfl, Ow.made (enc := encB) (sz := 1) w1 _ m (by simp [maxLen]; omega) (by rw [size_madeCells, Nat.mul_one]) hx1.size, (hx1.alloc _).below (Nat.le_refl _) (fun _ _ hh => hh)⟩
        case round =>
          clear hx1 hB hc hk hsz ho
          obtain ⟨k, hk, rfl, hO, hB⟩ := hrel
          obtain ⟨wo, rfl⟩ : ∃ wo : World, wo = wr := ⟨_, rfl⟩
          obtain ⟨AO, capO, rfl, hcO, hmO⟩ := hO.form
          by_cases hlt : k < n
          · obtain ⟨b, off, rfl, hb, hcc⟩ := hP (by rw [hn'.out]; omega)
            have hp : P[k]? = some (P[k]'(by rw [hn'.out]; exact hlt)) := List.getElem?_eq_getElem _
            generalize P[k]'(by rw [hn'.out]; exact hlt) = p at hp
            obtain ⟨hok, f0, f1, f2⟩ := hcc k p hp
            have g0 := (hB.cell (p := ⟨b, off + k * 3, none⟩) hb).trans f0
            have g1 := (hB.cell (p := ⟨b, off + k * 3 + 1, none⟩) hb).trans f1
            have g2 := (hB.cell (p := ⟨b, off + k * 3 + 2, none⟩) hb).trans f2
            have hch := chkAll_all P hgood'.out p (List.mem_of_getElem? hp)
            have hsn := Lib.hid (layL_snoc P k p hp)
            have hbl := layL_take_len P (k + 1)
            rw [hsn.out, hll'.out, List.length_append] at hbl
            generalize layL (P.take k) = L at hO hsn hbl hcO
            obtain ⟨N, W, S⟩ := p
            obtain ⟨⟨n1, n2⟩, ⟨h1, h2⟩, h3⟩ := hok
            dsimp only at g0 g1 g2 n1 n2 h1 h2 h3
            clear f0 f1 f2 hcc hp
            by_cases hW : W = 0
            · subst hW
              have hbo : bytesOf ⟨N, 0, S⟩ = S.data.toList := rfl
              rw [hbo] at hsn hbl
              clear hbo hch
              go_wp2_with (first
                | (at_builtin
                   refine wpList_app rfl (.tmp 39) (.tmp 41) _ _ rfl w.heap.size 5 Try.underlying43 u8_info rfl _ L rfl (hO.alloc _) _ S.data.toList rfl (Src.str Try.underlying9 S) (by omega) (by decide) (by have := hB.size; simp; omega) ?_
                   intro A6 c6 w6 hown6 ho6 hg6
                   have hB6 := (hB.alloc hB.size (.cells #[.int .i64 N, .int .i64 0, .string S] 46)).trans (ho6.below (by have := hB.size; simp; omega) (fun i hi hh => by have := (hO.lt hh).1; omega)))
                )
              go_roundw
              case rel => exact ⟨k + 1, by omega, by go_num, by rw [hsn.out]; exact hown6, hB6⟩
              case measure => simp [intOf]; omega
            · have hc14 : W = 1 ∨ W = 2 ∨ W = 3 ∨ W = 4 := by
                unfold chkE' at hch
                split at hch
                · omega
                · rename_i hh
                  dsimp only at hh
                  omega
              clear hch hW h3
              rcases hc14 with rfl | rfl | rfl | rfl
              ·
                have hbo : bytesOf ⟨N, 1, S⟩ = numB N 1 := rfl
                rw [hbo] at hsn hbl
                rw [numB_length] at hbl
                clear hbo
                have hA0 : Blk (wo.alloc (.cells #[.int .i64 N, .int .i64 1, .string S] 46)) wo.heap.size 46 #[.int .i64 N, .int .i64 1, .string S] := Blk.new _ _ _
                have hO0 := hO.alloc (.cells #[.int .i64 N, .int .i64 1, .string S] 46)
                have hB0 := hB.alloc hB.size (.cells #[.int .i64 N, .int .i64 1, .string S] 46)
                go_wp2
                go_loopw [8, 45] (fun oq jj wq => ∃ (j : Nat), j ≤ 1 ∧ jj = .int .i64 j ∧ Ow encB 1 wq w.heap.size 5 oq (L ++ (numB N 1).take j) ∧ Below w.heap.size w wq ∧ Blk wq wo.heap.size 46 #[.int .i64 N, .int .i64 1, .string S]) (fun _ jj _ => 1 - (intOf jj).toNat)
                case atStart => exact ⟨0, by omega, rfl, by rw [List.take_zero, List.append_nil]; exact hO0, hB0, hA0⟩
                case round =>
                  clear hO hO0 hB hB0 hA0 hcO
                  obtain ⟨j, hj, rfl, hO, hB, hA⟩ := hrel
                  obtain ⟨AQ, capQ, rfl, hcQ, hmQ⟩ := hO.form
                  have c0 := hA.cell 0
                  have c1 := hA.cell 1
                  have zA := hA.lt
                  by_cases hlj : j < 1
                  · have hnx := Lib.hid (take_num N 1 j hlj)
                    have hlen : (L ++ (numB N 1).take j).length ≤ L.length + 1 := by simp [numB_length]; omega
                    generalize hM : L ++ (numB N 1).take j = M at *
                    have hM' := Lib.hid hM
                    clear hM
                    obtain rfl : j = 0 := by omega
                    have hbv : encB (byteAt N 0) = [.int .u8 (N % 256)] := by unfold encB; rw [byteAt_toNat]; simp
                    go_wp2_with (first
                      | (at_builtin
                         refine wpList_app rfl (.tmp 48) (.tmp 59) _ _ rfl w.heap.size 5 Try.underlying43 u8_info rfl _ M rfl (hO.alloc _) _ [byteAt N 0] rfl (Src.one (enc := encB) Try.underlying43 (byteAt N 0) 1 rfl (Blk.new wr _ _) hbv.symm (by simp [encB, Value.oneCell'])) (by simp; omega) (by decide) (by have := hB.size; simp; omega) ?_
                         intro A6 c6 w6 hown6 ho6 hg6
                         have hA6 := (hA.alloc (.cells #[.int .u8 (N % 256)] 5)).kept ho6 (fun hh => (hO.ne hA (by decide)) hh)
                         have hB6 := (hB.alloc hB.size (.cells #[.int .u8 (N % 256)] 5)).trans (ho6.below (by have := hB.size; simp; omega) (fun i hi hh => by have := (hO.lt hh).1; omega)))
                      )
                    go_roundw
                    case rel => exact ⟨0 + 1, by omega, rfl, by rw [hnx.out, ← List.append_assoc, hM'.out]; exact hown6, hB6, hA6⟩
                    case measure => simp [intOf]
                  · have hj2 : (numB N 1).take j = numB N 1 := List.take_of_length_le (by rw [numB_length]; omega)
                    generalize hQ : L ++ (numB N 1).take j = Q at *
                    rw [hj2] at hQ
                    have hQ' := Lib.hid hQ
                    clear hQ hj2
                    go_wp2
                    go_roundw
                    case rel => exact ⟨k + 1, by omega, by go_num, by rw [hsn.out, hQ'.out]; exact hO, hB⟩
                    case measure => simp [intOf]; omega
              ·
                have hbo : bytesOf ⟨N, 2, S⟩ = numB N 2 := rfl
                rw [hbo] at hsn hbl
                rw [numB_length] at hbl
                clear hbo
                have hA0 : Blk (wo.alloc (.cells #[.int .i64 N, .int .i64 2, .string S] 46)) wo.heap.size 46 #[.int .i64 N, .int .i64 2, .string S] := Blk.new _ _ _
                have hO0 := hO.alloc (.cells #[.int .i64 N, .int .i64 2, .string S] 46)
                have hB0 := hB.alloc hB.size (.cells #[.int .i64 N, .int .i64 2, .string S] 46)
                go_wp2
                go_loopw [8, 45] (fun oq jj wq => ∃ (j : Nat), j ≤ 2 ∧ jj = .int .i64 j ∧ Ow encB 1 wq w.heap.size 5 oq (L ++ (numB N 2).take j) ∧ Below w.heap.size w wq ∧ Blk wq wo.heap.size 46 #[.int .i64 N, .int .i64 2, .string S]) (fun _ jj _ => 2 - (intOf jj).toNat)
                case atStart => exact ⟨0, by omega, rfl, by rw [List.take_zero, List.append_nil]; exact hO0, hB0, hA0⟩
                case round =>
                  clear hO hO0 hB hB0 hA0 hcO
                  obtain ⟨j, hj, rfl, hO, hB, hA⟩ := hrel
                  obtain ⟨AQ, capQ, rfl, hcQ, hmQ⟩ := hO.form
                  have c0 := hA.cell 0
                  have c1 := hA.cell 1
                  have zA := hA.lt
                  by_cases hlj : j < 2
                  · have hnx := Lib.hid (take_num N 2 j hlj)
                    have hlen : (L ++ (numB N 2).take j).length ≤ L.length + 2 := by simp [numB_length]; omega
                    generalize hM : L ++ (numB N 2).take j = M at *
                    have hM' := Lib.hid hM
                    clear hM
                    rcases (show j = 0 ∨ j = 1 by omega) with rfl | rfl
                    ·
                      have hbv : encB (byteAt N 1) = [.int .u8 ((N / 256) % 256)] := by unfold encB; rw [byteAt_toNat]; simp
                      go_wp2_with (first
                        | (at_builtin
                           refine wpList_app rfl (.tmp 48) (.tmp 59) _ _ rfl w.heap.size 5 Try.underlying43 u8_info rfl _ M rfl (hO.alloc _) _ [byteAt N 1] rfl (Src.one (enc := encB) Try.underlying43 (byteAt N 1) 1 rfl (Blk.new wr _ _) hbv.symm (by simp [encB, Value.oneCell'])) (by simp; omega) (by decide) (by have := hB.size; simp; omega) ?_
                           intro A6 c6 w6 hown6 ho6 hg6
                           have hA6 := (hA.alloc (.cells #[.int .u8 ((N / 256) % 256)] 5)).kept ho6 (fun hh => (hO.ne hA (by decide)) hh)
                           have hB6 := (hB.alloc hB.size (.cells #[.int .u8 ((N / 256) % 256)] 5)).trans (ho6.below (by have := hB.size; simp; omega) (fun i hi hh => by have := (hO.lt hh).1; omega)))
                        )
                      go_roundw
                      case rel => exact ⟨0 + 1, by omega, rfl, by rw [hnx.out, ← List.append_assoc, hM'.out]; exact hown6, hB6, hA6⟩
                      case measure => simp [intOf]
                    ·
                      have hbv : encB (byteAt N 0) = [.int .u8 (N % 256)] := by unfold encB; rw [byteAt_toNat]; simp
                      go_wp2_with (first
                        | (at_builtin
                           refine wpList_app rfl (.tmp 48) (.tmp 59) _ _ rfl w.heap.size 5 Try.underlying43 u8_info rfl _ M rfl (hO.alloc _) _ [byteAt N 0] rfl (Src.one (enc := encB) Try.underlying43 (byteAt N 0) 1 rfl (Blk.new wr _ _) hbv.symm (by simp [encB, Value.oneCell'])) (by simp; omega) (by decide) (by have := hB.size; simp; omega) ?_
                           intro A6 c6 w6 hown6 ho6 hg6
                           have hA6 := (hA.alloc (.cells #[.int .u8 (N % 256)] 5)).kept ho6 (fun hh => (hO.ne hA (by decide)) hh)
                           have hB6 := (hB.alloc hB.size (.cells #[.int .u8 (N % 256)] 5)).trans (ho6.below (by have := hB.size; simp; omega) (fun i hi hh => by have := (hO.lt hh).1; omega)))
                        )
                      go_roundw
                      case rel => exact ⟨1 + 1, by omega, rfl, by rw [hnx.out, ← List.append_assoc, hM'.out]; exact hown6, hB6, hA6⟩
                      case measure => simp [intOf]
                  · have hj2 : (numB N 2).take j = numB N 2 := List.take_of_length_le (by rw [numB_length]; omega)
                    generalize hQ : L ++ (numB N 2).take j = Q at *
                    rw [hj2] at hQ
                    have hQ' := Lib.hid hQ
                    clear hQ hj2
                    go_wp2
                    go_roundw
                    case rel => exact ⟨k + 1, by omega, by go_num, by rw [hsn.out, hQ'.out]; exact hO, hB⟩
                    case measure => simp [intOf]; omega
              ·
                have hbo : bytesOf ⟨N, 3, S⟩ = numB N 3 := rfl
                rw [hbo] at hsn hbl
                rw [numB_length] at hbl
                clear hbo
                have hA0 : Blk (wo.alloc (.cells #[.int .i64 N, .int .i64 3, .string S] 46)) wo.heap.size 46 #[.int .i64 N, .int .i64 3, .string S] := Blk.new _ _ _
                have hO0 := hO.alloc (.cells #[.int .i64 N, .int .i64 3, .string S] 46)
                have hB0 := hB.alloc hB.size (.cells #[.int .i64 N, .int .i64 3, .string S] 46)
                go_wp2
                go_loopw [8, 45] (fun oq jj wq => ∃ (j : Nat), j ≤ 3 ∧ jj = .int .i64 j ∧ Ow encB 1 wq w.heap.size 5 oq (L ++ (numB N 3).take j) ∧ Below w.heap.size w wq ∧ Blk wq wo.heap.size 46 #[.int .i64 N, .int .i64 3, .string S]) (fun _ jj _ => 3 - (intOf jj).toNat)
                case atStart => exact ⟨0, by omega, rfl, by rw [List.take_zero, List.append_nil]; exact hO0, hB0, hA0⟩
                case round =>
                  clear hO hO0 hB hB0 hA0 hcO
                  obtain ⟨j, hj, rfl, hO, hB, hA⟩ := hrel
                  obtain ⟨AQ, capQ, rfl, hcQ, hmQ⟩ := hO.form
                  have c0 := hA.cell 0
                  have c1 := hA.cell 1
                  have zA := hA.lt
                  by_cases hlj : j < 3
                  · have hnx := Lib.hid (take_num N 3 j hlj)
                    have hlen : (L ++ (numB N 3).take j).length ≤ L.length + 3 := by simp [numB_length]; omega
                    generalize hM : L ++ (numB N 3).take j = M at *
                    have hM' := Lib.hid hM
                    clear hM
                    rcases (show j = 0 ∨ j = 1 ∨ j = 2 by omega) with rfl | rfl | rfl
                    ·
                      have hbv : encB (byteAt N 2) = [.int .u8 ((N / 65536) % 256)] := by unfold encB; rw [byteAt_toNat]; simp
                      go_wp2_with (first
                        | (at_builtin
                           refine wpList_app rfl (.tmp 48) (.tmp 59) _ _ rfl w.heap.size 5 Try.underlying43 u8_info rfl _ M rfl (hO.alloc _) _ [byteAt N 2] rfl (Src.one (enc := encB) Try.underlying43 (byteAt N 2) 1 rfl (Blk.new wr _ _) hbv.symm (by simp [encB, Value.oneCell'])) (by simp; omega) (by decide) (by have := hB.size; simp; omega) ?_
                           intro A6 c6 w6 hown6 ho6 hg6
                           have hA6 := (hA.alloc (.cells #[.int .u8 ((N / 65536) % 256)] 5)).kept ho6 (fun hh => (hO.ne hA (by decide)) hh)
                           have hB6 := (hB.alloc hB.size (.cells #[.int .u8 ((N / 65536) % 256)] 5)).trans (ho6.below (by have := hB.size; simp; omega) (fun i hi hh => by have := (hO.lt hh).1; omega)))
                        )
                      go_roundw
                      case rel => exact ⟨0 + 1, by omega, rfl, by rw [hnx.out, ← List.append_assoc, hM'.out]; exact hown6, hB6, hA6⟩
                      case measure => simp [intOf]
                    ·
                      have hbv : encB (byteAt N 1) = [.int .u8 ((N / 256) % 256)] := by unfold encB; rw [byteAt_toNat]; simp
                      go_wp2_with (first
                        | (at_builtin
                           refine wpList_app rfl (.tmp 48) (.tmp 59) _ _ rfl w.heap.size 5 Try.underlying43 u8_info rfl _ M rfl (hO.alloc _) _ [byteAt N 1] rfl (Src.one (enc := encB) Try.underlying43 (byteAt N 1) 1 rfl (Blk.new wr _ _) hbv.symm (by simp [encB, Value.oneCell'])) (by simp; omega) (by decide) (by have := hB.size; simp; omega) ?_
                           intro A6 c6 w6 hown6 ho6 hg6
                           have hA6 := (hA.alloc (.cells #[.int .u8 ((N / 256) % 256)] 5)).kept ho6 (fun hh => (hO.ne hA (by decide)) hh)
                           have hB6 := (hB.alloc hB.size (.cells #[.int .u8 ((N / 256) % 256)] 5)).trans (ho6.below (by have := hB.size; simp; omega) (fun i hi hh => by have := (hO.lt hh).1; omega)))
                        )
                      go_roundw
                      case rel => exact ⟨1 + 1, by omega, rfl, by rw [hnx.out, ← List.append_assoc, hM'.out]; exact hown6, hB6, hA6⟩
                      case measure => simp [intOf]
                    ·
                      have hbv : encB (byteAt N 0) = [.int .u8 (N % 256)] := by unfold encB; rw [byteAt_toNat]; simp
                      go_wp2_with (first
                        | (at_builtin
                           refine wpList_app rfl (.tmp 48) (.tmp 59) _ _ rfl w.heap.size 5 Try.underlying43 u8_info rfl _ M rfl (hO.alloc _) _ [byteAt N 0] rfl (Src.one (enc := encB) Try.underlying43 (byteAt N 0) 1 rfl (Blk.new wr _ _) hbv.symm (by simp [encB, Value.oneCell'])) (by simp; omega) (by decide) (by have := hB.size; simp; omega) ?_
                           intro A6 c6 w6 hown6 ho6 hg6
                           have hA6 := (hA.alloc (.cells #[.int .u8 (N % 256)] 5)).kept ho6 (fun hh => (hO.ne hA (by decide)) hh)
                           have hB6 := (hB.alloc hB.size (.cells #[.int .u8 (N % 256)] 5)).trans (ho6.below (by have := hB.size; simp; omega) (fun i hi hh => by have := (hO.lt hh).1; omega)))
                        )
                      go_roundw
                      case rel => exact ⟨2 + 1, by omega, rfl, by rw [hnx.out, ← List.append_assoc, hM'.out]; exact hown6, hB6, hA6⟩
                      case measure => simp [intOf]
                  · have hj2 : (numB N 3).take j = numB N 3 := List.take_of_length_le (by rw [numB_length]; omega)
                    generalize hQ : L ++ (numB N 3).take j = Q at *
                    rw [hj2] at hQ
                    have hQ' := Lib.hid hQ
                    clear hQ hj2
                    go_wp2
                    go_roundw
                    case rel => exact ⟨k + 1, by omega, by go_num, by rw [hsn.out, hQ'.out]; exact hO, hB⟩
                    case measure => simp [intOf]; omega
              ·
                have hbo : bytesOf ⟨N, 4, S⟩ = numB N 4 := rfl
                rw [hbo] at hsn hbl
                rw [numB_length] at hbl
                clear hbo
                have hA0 : Blk (wo.alloc (.cells #[.int .i64 N, .int .i64 4, .string S] 46)) wo.heap.size 46 #[.int .i64 N, .int .i64 4, .string S] := Blk.new _ _ _
                have hO0 := hO.alloc (.cells #[.int .i64 N, .int .i64 4, .string S] 46)
                have hB0 := hB.alloc hB.size (.cells #[.int .i64 N, .int .i64 4, .string S] 46)
                go_wp2
                go_loopw [8, 45] (fun oq jj wq => ∃ (j : Nat), j ≤ 4 ∧ jj = .int .i64 j ∧ Ow encB 1 wq w.heap.size 5 oq (L ++ (numB N 4).take j) ∧ Below w.heap.size w wq ∧ Blk wq wo.heap.size 46 #[.int .i64 N, .int .i64 4, .string S]) (fun _ jj _ => 4 - (intOf jj).toNat)
                case atStart => exact ⟨0, by omega, rfl, by rw [List.take_zero, List.append_nil]; exact hO0, hB0, hA0⟩
                case round =>
                  clear hO hO0 hB hB0 hA0 hcO
                  obtain ⟨j, hj, rfl, hO, hB, hA⟩ := hrel
                  obtain ⟨AQ, capQ, rfl, hcQ, hmQ⟩ := hO.form
                  have c0 := hA.cell 0
                  have c1 := hA.cell 1
                  have zA := hA.lt
                  by_cases hlj : j < 4
                  · have hnx := Lib.hid (take_num N 4 j hlj)
                    have hlen : (L ++ (numB N 4).take j).length ≤ L.length + 4 := by simp [numB_length]; omega
                    generalize hM : L ++ (numB N 4).take j = M at *
                    have hM' := Lib.hid hM
                    clear hM
                    rcases (show j = 0 ∨ j = 1 ∨ j = 2 ∨ j = 3 by omega) with rfl | rfl | rfl | rfl
                    ·
                      have hbv : encB (byteAt N 3) = [.int .u8 ((N / 16777216) % 256)] := by unfold encB; rw [byteAt_toNat]; simp
                      go_wp2_with (first
                        | (at_builtin
                           refine wpList_app rfl (.tmp 48) (.tmp 59) _ _ rfl w.heap.size 5 Try.underlying43 u8_info rfl _ M rfl (hO.alloc _) _ [byteAt N 3] rfl (Src.one (enc := encB) Try.underlying43 (byteAt N 3) 1 rfl (Blk.new wr _ _) hbv.symm (by simp [encB, Value.oneCell'])) (by simp; omega) (by decide) (by have := hB.size; simp; omega) ?_
                           intro A6 c6 w6 hown6 ho6 hg6
                           have hA6 := (hA.alloc (.cells #[.int .u8 ((N / 16777216) % 256)] 5)).kept ho6 (fun hh => (hO.ne hA (by decide)) hh)
                           have hB6 := (hB.alloc hB.size (.cells #[.int .u8 ((N / 16777216) % 256)] 5)).trans (ho6.below (by have := hB.size; simp; omega) (fun i hi hh => by have := (hO.lt hh).1; omega)))
                        )
                      go_roundw
                      case rel => exact ⟨0 + 1, by omega, rfl, by rw [hnx.out, ← List.append_assoc, hM'.out]; exact hown6, hB6, hA6⟩
                      case measure => simp [intOf]
                    ·
                      have hbv : encB (byteAt N 2) = [.int .u8 ((N / 65536) % 256)] := by unfold encB; rw [byteAt_toNat]; simp
                      go_wp2_with (first
                        | (at_builtin
                           refine wpList_app rfl (.tmp 48) (.tmp 59) _ _ rfl w.heap.size 5 Try.underlying43 u8_info rfl _ M rfl (hO.alloc _) _ [byteAt N 2] rfl (Src.one (enc := encB) Try.underlying43 (byteAt N 2) 1 rfl (Blk.new wr _ _) hbv.symm (by simp [encB, Value.oneCell'])) (by simp; omega) (by decide) (by have := hB.size; simp; omega) ?_
                           intro A6 c6 w6 hown6 ho6 hg6
                           have hA6 := (hA.alloc (.cells #[.int .u8 ((N / 65536) % 256)] 5)).kept ho6 (fun hh => (hO.ne hA (by decide)) hh)
                           have hB6 := (hB.alloc hB.size (.cells #[.int .u8 ((N / 65536) % 256)] 5)).trans (ho6.below (by have := hB.size; simp; omega) (fun i hi hh => by have := (hO.lt hh).1; omega)))
                        )
                      go_roundw
                      case rel => exact ⟨1 + 1, by omega, rfl, by rw [hnx.out, ← List.append_assoc, hM'.out]; exact hown6, hB6, hA6⟩
                      case measure => simp [intOf]
                    ·
                      have hbv : encB (byteAt N 1) = [.int .u8 ((N / 256) % 256)] := by unfold encB; rw [byteAt_toNat]; simp
                      go_wp2_with (first
                        | (at_builtin
                           refine wpList_app rfl (.tmp 48) (.tmp 59) _ _ rfl w.heap.size 5 Try.underlying43 u8_info rfl _ M rfl (hO.alloc _) _ [byteAt N 1] rfl (Src.one (enc := encB) Try.underlying43 (byteAt N 1) 1 rfl (Blk.new wr _ _) hbv.symm (by simp [encB, Value.oneCell'])) (by simp; omega) (by decide) (by have := hB.size; simp; omega) ?_
                           intro A6 c6 w6 hown6 ho6 hg6
                           have hA6 := (hA.alloc (.cells #[.int .u8 ((N / 256) % 256)] 5)).kept ho6 (fun hh => (hO.ne hA (by decide)) hh)
                           have hB6 := (hB.alloc hB.size (.cells #[.int .u8 ((N / 256) % 256)] 5)).trans (ho6.below (by have := hB.size; simp; omega) (fun i hi hh => by have := (hO.lt hh).1; omega)))
                        )
                      go_roundw
                      case rel => exact ⟨2 + 1, by omega, rfl, by rw [hnx.out, ← List.append_assoc, hM'.out]; exact hown6, hB6, hA6⟩
                      case measure => simp [intOf]
                    ·
                      have hbv : encB (byteAt N 0) = [.int .u8 (N % 256)] := by unfold encB; rw [byteAt_toNat]; simp
                      go_wp2_with (first
                        | (at_builtin
                           refine wpList_app rfl (.tmp 48) (.tmp 59) _ _ rfl w.heap.size 5 Try.underlying43 u8_info rfl _ M rfl (hO.alloc _) _ [byteAt N 0] rfl (Src.one (enc := encB) Try.underlying43 (byteAt N 0) 1 rfl (Blk.new wr _ _) hbv.symm (by simp [encB, Value.oneCell'])) (by simp; omega) (by decide) (by have := hB.size; simp; omega) ?_
                           intro A6 c6 w6 hown6 ho6 hg6
                           have hA6 := (hA.alloc (.cells #[.int .u8 (N % 256)] 5)).kept ho6 (fun hh => (hO.ne hA (by decide)) hh)
                           have hB6 := (hB.alloc hB.size (.cells #[.int .u8 (N % 256)] 5)).trans (ho6.below (by have := hB.size; simp; omega) (fun i hi hh => by have := (hO.lt hh).1; omega)))
                        )
                      go_roundw
                      case rel => exact ⟨3 + 1, by omega, rfl, by rw [hnx.out, ← List.append_assoc, hM'.out]; exact hown6, hB6, hA6⟩
                      case measure => simp [intOf]
                  · have hj2 : (numB N 4).take j = numB N 4 := List.take_of_length_le (by rw [numB_length]; omega)
                    generalize hQ : L ++ (numB N 4).take j = Q at *
                    rw [hj2] at hQ
                    have hQ' := Lib.hid hQ
                    clear hQ hj2
                    go_wp2
                    go_roundw
                    case rel => exact ⟨k + 1, by omega, by go_num, by rw [hsn.out, hQ'.out]; exact hO, hB⟩
                    case measure => simp [intOf]; omega
          · have hstr := hO.str (P := Try.prog) 43 5 9 Try.underlying43 Try.underlying5 Try.underlying9
            have hkn : Hid (layL (P.take k) = layL P) := Lib.hid (by rw [List.take_of_length_le (by rw [hn'.out]; omega)])
            generalize layL (P.take k) = L at *
            go_wp2
            go_ret2
            exact ⟨by rw [e1.out, e2.out, ← hkn.out]; rfl, Only.of_below hB⟩
theorem Lay_any (A : Option Addr) (cap : Nat) (P : List Pc) (w : World) (hP : PcsAt w w.heap.size A P) (hlen : P.length ≤ 9223372036854775807) :
    Calls Try.prog 18 #[.slice A P.length cap] w (LayPost w P) := by
  by_cases h : chkAll P = 0
  · exact Lay_right A cap P w hP hlen h
  · exact Lay_bad A cap P w hP hlen h
/-- the elements that a block bears -/
theorem Blk.sq {α : Type} {enc : α → List Value} {sz : Nat} {w : World} {g : Nat} {t : TypeId} {cs : Array Value} {l : List α} (h : Blk w g t cs) (hcs : cs.toList = l.flatMap enc) (hsz : ∀ x ∈ l, (enc x).length = sz) : Sq enc sz w w.heap.size (some ⟨g, 0, none⟩) l := fun _ =>
  ⟨g, 0, rfl, h.lt, fun i x hx j hj => by rw [h.cell, ← flat_at hsz hx hj, ← hcs, Nat.zero_add, Array.getElem?_toList]⟩
theorem encPc_len {l : List Pc} : ∀ x ∈ l, (encPc x).length = 3 := fun _ _ => rfl
theorem pc_ok {N W : Int} {S : ByteArray} (h1 : -9223372036854775808 ≤ N ∧ N ≤ 9223372036854775807) (h2 : -9223372036854775808 ≤ W ∧ W ≤ 9223372036854775807) (h3 : S.size ≤ 1000000) : Pc.ok ⟨N, W, S⟩ := ⟨h1, h2, by simp only [maxLen]; omega⟩
/-- what Lay answers, known beforehand -/
theorem Lay_known (A : Option Addr) (cap n : Nat) (P : List Pc) (S : ByteArray) (E : Int) (w : World) (hP : Sq encPc 3 w w.heap.size A P) (hok : ∀ p ∈ P, p.ok) (hn : n = P.length) (hlen : P.length ≤ 9223372036854775807) (hS : layS P = S) (hE : layE P = E) :
    Calls Try.prog 18 #[.slice A n cap] w fun x w' => x = .returned (.tuple #[.string S, .int .i64 E]) ∧ Only Nil w w' := by
  subst hn
  have := Lay_any A cap P w (pcsAt_of hP hok) hlen
  unfold LayPost at this
  rw [hS, hE] at this
  exact this
theorem U_any (n wd : Int) (w : World) : Calls Try.prog 19 #[.int .i64 n, .int .i64 wd] w fun x w' => x = .returned (.agg #[.int .i64 n, .int .i64 wd, .string noS]) ∧ Only Nil w w' := by
  go_enter Try.func19, Try.ntmps19
  go_wp2
  exact bodyPost_ret (v := .agg #[.int .i64 n, .int .i64 wd, .string noS]) (by simp [results, Try.results19, go_sem]) rfl ⟨rfl, (Only.refl _ _).alloc _⟩
end Go.Proofs.Ytamocachpjljdaa
