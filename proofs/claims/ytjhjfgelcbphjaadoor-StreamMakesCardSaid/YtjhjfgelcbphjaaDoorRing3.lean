/- What Drop, Read, Clear and Copy of a ring do. -/
import Derived.Test.YtjhjfgelcbphjaaDoorRing2
import Derived.Test.YtjhjfgelcbphjaaDoorApp
namespace Go.Proofs.YtjhjfgelcbphjaaDoor
open Go.RowKit

theorem encB_len1 : ∀ x, (encB x).length = 1 := fun _ => rfl
theorem encB_one : ∀ x, ∀ u ∈ encB x, u.oneCell' = true := fun _ u hu => by simp [encB] at hu; subst hu; rfl
section
variable {w w' : World} {r g base c F : Nat} {row L : List UInt8}
theorem drop_at {k : Nat} (hF : F < c) (hk : k ≤ L.length) (hL : L.length ≤ c) (h : ∀ j, j < L.length → (if F + j < c then row[F + j]? else row[F + j - c]?) = L[j]?) :
    (F + k) % c < c ∧ ∀ j, j < (L.drop k).length → (if (F + k) % c + j < c then row[(F + k) % c + j]? else row[(F + k) % c + j - c]?) = (L.drop k)[j]? := by
  have hm : (F + k) % c = if F + k < c then F + k else F + k - c := by
    split
    · exact Nat.mod_eq_of_lt ‹_›
    · by_cases hx : F + k - c < c
      · rw [Nat.mod_eq_sub_mod (by omega), Nat.mod_eq_of_lt hx]
      · omega
  refine ⟨Nat.mod_lt _ (by omega), fun j hj => ?_⟩
  rw [List.length_drop] at hj
  rw [List.getElem?_drop, ← h (k + j) (by omega), hm]
  by_cases h1 : F + k < c
  · rw [if_pos h1, Nat.add_assoc]
  · rw [if_neg h1]
    by_cases h2 : F + k - c + j < c
    · rw [if_pos h2, if_neg (by omega)]
      congr 1
      omega
    · omega
def DPost (w : World) (r g base c : Nat) (row : List UInt8) (v : Value) (L' : List UInt8) (x : Ending) (w' : World) : Prop := ∃ F', x = .returned v ∧ Rg w' r g base c F' row L' ∧ Only (One r) w w'
set_option maxHeartbeats 2000000 in
theorem Drop_any (n : Int) (w : World) (h : Rg w r g base c F row L) : Calls Tryd.prog 91 #[.pointer (some ⟨r, 0, none⟩), .int .i64 n] w (DPost w r g base c row (.int .i64 (cnt n L.length)) (L.drop (cnt n L.length))) := by
  have hC := Lib.hid (count_any n w h)
  have hk : cnt n L.length ≤ L.length := by unfold cnt; omega
  generalize cnt n L.length = k at *
  by_cases h0 : k = 0
  · subst h0
    have hD : DPost w r g base c row (.int .i64 (0 : Nat)) (L.drop 0) (.returned (.int .i64 (0 : Nat))) w := ⟨F, rfl, by simpa using h, Only.refl _ _⟩
    have HD := Lib.hid hD
    clear h hk hD
    go_enter Tryd.func91, Tryd.ntmps91
    go_wp2_with (first
      | (go_at_call 104; (with_reducible refine (hC.out).mono ?_); rintro e w1 ⟨rfl, rfl⟩)
      )
    go_ret
    exact HD.out
  · have hz : ((k : Int) == 0) = false := by simp; omega
    have hle := h.le
    have hbig := h.big
    have hF : F < c := by have := h.fst; omega
    obtain ⟨hlt, hat⟩ := drop_at hF hk hle h.at_
    obtain ⟨c0, c1, c2⟩ := h.facts
    have z := h.blk.lt
    have f1 := h.blk.frozen 1
    have f2 := h.blk.frozen 2
    have hne := h.ne
    have hH := Lib.hid h
    have hAt := Lib.hid hat
    have hci : ((c : Int) == 0) = false := by simp; omega
    have hr : ((F : Int) + k) % c = ((F + k) % c : Nat) := by push_cast; rfl
    generalize hF' : (F + k) % c = F' at *
    have d0 : w.drew.cell? ⟨r, 0, none⟩ = some (.slice (some ⟨g, 0, none⟩) c c) := c0
    have d1 : w.drew.cell? ⟨r, 1, none⟩ = some (.int .i64 F) := c1
    clear h hat h0
    go_enter Tryd.func91, Tryd.ntmps91
    go_wp2_with (first
      | (go_at_call 104; (with_reducible refine (hC.out).mono ?_); rintro e w1 ⟨rfl, rfl⟩)
      )
    go_region
    go_wp2
    go_ret
    have hlen' : ((L.drop k).length : Int) = (L.length : Int) - k := by rw [List.length_drop]; omega
    have hb := ((hH.out.blk.set 1 (.int .i64 F')).set 2 (.int .i64 ((L.length : Int) - k))).drew
    have hO := ((hH.out.own.set (b := r) (by simp [Value.ownBlock]; exact hne.symm) 1 (.int .i64 F')).set (b := r) (by simp [Value.ownBlock]; exact hne.symm) 2 (.int .i64 ((L.length : Int) - k))).drew
    refine ⟨F', rfl, ⟨?_, hO, hH.out.hb, hH.out.len, by rw [List.length_drop]; omega, .inl hlt, hbig, hAt.out⟩, (((Only.refl (One r) w).set1 1 _).set1 2 _).drew⟩
    rw [hlen']
    exact hb
theorem Read_nil (n : Int) (w : World) : Calls Tryd.prog 73 #[.pointer none, .int .i64 n] w fun x w' => x = .returned (.string noS) ∧ w = w' := by
  go_enter Tryd.func73, Tryd.ntmps73
  go_wp2_with (first
    | (go_at_call 90; (with_reducible refine (Peek_nil n _).mono ?_); rintro e w1 ⟨rfl, rfl⟩)
    | (go_at_call 91; (with_reducible refine (Drop_nil 0 _).mono ?_); rintro e w1 ⟨rfl, rfl⟩)
    )
  go_ret
  exact ⟨rfl, rfl⟩
theorem DPost.mono0 {v : Value} {w0 : World} (ho : Only Nil w0 w) {L' : List UInt8} {x : Ending} (h : DPost w r g base c row v L' x w') : DPost w0 r g base c row v L' x w' := by
  obtain ⟨F', h1, h2, h3⟩ := h
  exact ⟨F', h1, h2, (ho.of_nil _).trans h3⟩
theorem Read_any (n : Int) (w : World) (h : Rg w r g base c F row L) : Calls Tryd.prog 73 #[.pointer (some ⟨r, 0, none⟩), .int .i64 n] w (DPost w r g base c row (.string (strOf (L.take (cnt n L.length)))) (L.drop (cnt n L.length))) := by
  have hP := Lib.hid (Peek_any n w h)
  have hk : cnt n L.length ≤ L.length := by unfold cnt; omega
  have hD := Lib.hid (fun W (ho : Only Nil w W) => Drop_any (cnt n L.length : Nat) W (h.go ho))
  have e0 : cnt (cnt n L.length : Nat) L.length = cnt n L.length := by unfold cnt; omega
  rw [e0] at hD
  generalize cnt n L.length = k at *
  have hs : (strOf (L.take k)).size = k := by rw [strOf_size]; simp; omega
  generalize hX : strOf (L.take k) = X at *
  clear hX
  subst hs
  clear e0 hk h
  go_enter Tryd.func73, Tryd.ntmps73
  go_wp2_with (first
    | (go_at_call 90; (with_reducible refine (hP.out).mono ?_); rintro e w1 ⟨rfl, ho1⟩)
    | (go_at_call 91; (with_reducible refine (hD.out _ ho1).mono ?_); rintro e w2 ⟨F', rfl, hR2, ho2⟩)
    )
  go_ret
  exact ⟨F', rfl, hR2, (ho1.of_nil _).trans ho2⟩
theorem Clear_nil (w : World) : Calls Tryd.prog 83 #[.pointer none] w fun x w' => x = .returned (.int .i64 0) ∧ w = w' := by
  go_enter Tryd.func83, Tryd.ntmps83
  go_wp2_with (first
    | (go_at_call 51; (with_reducible refine (Len_nil _).mono ?_); rintro e w1 ⟨rfl, rfl⟩)
    | (go_at_call 91; (with_reducible refine (Drop_nil 0 _).mono ?_); rintro e w1 ⟨rfl, rfl⟩)
    )
  go_ret
  exact ⟨rfl, rfl⟩
theorem Clear_any (w : World) (h : Rg w r g base c F row L) : Calls Tryd.prog 83 #[.pointer (some ⟨r, 0, none⟩)] w (DPost w r g base c row (.int .i64 L.length) []) := by
  have hL := Lib.hid (Len_any w h)
  have hD := Drop_any L.length w h
  have e0 : cnt (L.length : Nat) L.length = L.length := by unfold cnt; omega
  rw [e0, List.drop_length] at hD
  have HD := Lib.hid hD
  clear hD e0 h
  go_enter Tryd.func83, Tryd.ntmps83
  go_wp2_with (first
    | (go_at_call 51; (with_reducible refine (hL.out).mono ?_); rintro e w1 ⟨rfl, rfl⟩)
    | (go_at_call 91; (with_reducible refine (HD.out).mono ?_); rintro e w2 ⟨F', rfl, hR2, ho2⟩)
    )
  go_ret
  exact ⟨F', rfl, hR2, ho2⟩
end
end Go.Proofs.YtjhjfgelcbphjaaDoor
