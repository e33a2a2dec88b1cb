/- One way of a stream: what a nil one does; what must come at any rate. -/
import Derived.Test.YtikjifhilemocaaRows
import Derived.Test.YtikjifhilemocaaApp
import Derived.Test.YtikjifhilemocaaBytes
namespace Go.Proofs.Ytikjifhilemocaa
open Go.RowKit

section
variable {w w' : World} {b : Nat}
theorem Kind_nil (w : World) : Calls Try.prog 16 #[.pointer none] w fun x w' => x = .returned (.int .i64 0) ∧ w = w' := by
  go_enter Try.func16, Try.ntmps16
  go_wp2
  go_ret
  exact ⟨rfl, rfl⟩
theorem Offer_nil (S : ByteArray) (w : World) : Calls Try.prog 17 #[.pointer none, .string S] w fun x w' => x = .returned (.tuple #[.int .i64 0, .int .i64 1]) ∧ w = w' := by
  go_enter Try.func17, Try.ntmps17
  go_wp2
  go_ret2
  exact ⟨rfl, rfl⟩
theorem Finish_nil (w : World) : Calls Try.prog 19 #[.pointer none] w fun x w' => x = .returned (.int .i64 1) ∧ w = w' := by
  go_enter Try.func19, Try.ntmps19
  go_wp2
  go_ret
  exact ⟨rfl, rfl⟩
theorem Sent_nil (S : ByteArray) (e : Bool) (w : World) : Calls Try.prog 20 #[.pointer none, .string S, .bool e] w fun x w' => x = .returned (.bool false) ∧ w = w' := by
  go_enter Try.func20, Try.ntmps20
  go_wp2
  go_ret
  exact ⟨rfl, rfl⟩
theorem Came_nil (S : ByteArray) (e : Bool) (w : World) : Calls Try.prog 21 #[.pointer none, .string S, .bool e] w fun x w' => x = .returned (.bool false) ∧ w = w' := by
  go_enter Try.func21, Try.ntmps21
  go_wp2
  go_ret
  exact ⟨rfl, rfl⟩
theorem Read_nil (n : Int) (w : World) : Calls Try.prog 22 #[.pointer none, .int .i64 n] w fun x w' => x = .returned (.string noS) ∧ w = w' := by
  go_enter Try.func22, Try.ntmps22
  go_wp2
  go_ret
  exact ⟨rfl, rfl⟩
theorem Item_nil (w : World) : Calls Try.prog 18 #[.pointer none] w fun x w' => x = .returned (.tuple #[.string noS, .bool false]) ∧ w = w' := by
  go_enter Try.func18, Try.ntmps18
  go_wp2
  go_ret2
  exact ⟨rfl, rfl⟩
theorem Done_nil (w : World) : Calls Try.prog 15 #[.pointer none] w fun x w' => x = .returned (.bool true) ∧ w = w' := by
  go_enter Try.func15, Try.ntmps15
  go_wp2
  go_ret
  exact ⟨rfl, rfl⟩
theorem Out_nil (w : World) : Calls Try.prog 14 #[.pointer none] w fun x w' => x = .returned (.bool false) ∧ w = w' := by
  go_enter Try.func14, Try.ntmps14
  go_wp2
  go_ret
  exact ⟨rfl, rfl⟩
theorem Rows_nil (w : World) : Calls Try.prog 9 #[.pointer none] w fun x w' => x = .returned (.tuple #[.int .i64 0, .int .i64 0, .int .i64 0]) ∧ w = w' := by
  go_enter Try.func9, Try.ntmps9
  go_wp2
  refine bodyPost_ret (v := .tuple #[.int .i64 0, .int .i64 0, .int .i64 0]) (by simp [results, Try.results9, go_sem]) rfl ⟨rfl, rfl⟩
theorem Counts_nil (w : World) : Calls Try.prog 10 #[.pointer none] w fun x w' => x = .returned (.tuple #[.int .i64 0, .int .i64 0, .int .i64 0]) ∧ w = w' := by
  go_enter Try.func10, Try.ntmps10
  go_wp2
  refine bodyPost_ret (v := .tuple #[.int .i64 0, .int .i64 0, .int .i64 0]) (by simp [results, Try.results10, go_sem]) rfl ⟨rfl, rfl⟩
/-- a flow of bytes of ten -/
def Fl (w : World) (b : Nat) (W T : ByteArray) (way : Value) (A t : Int) : Prop :=
  Blk w b 58 #[.int .i64 1, .int .i64 10, .int .i64 0, .string W, .slice none 0 0, .string T, .slice none 0 0, way, .bool false, .bool false, .bool false, .int .i64 A, .int .i64 0, .int .i64 t]
theorem New_awake (w : World) : Calls Try.prog 5 #[.int .i64 1, .int .i64 10, .int .i64 0] w fun x w' => ∃ b, x = .returned (.tuple #[.pointer (some ⟨b, 0, none⟩), .int .i64 0]) ∧ Fl w' b noS noS (.slice none 0 0) 0 0 ∧ w.heap.size ≤ b ∧ Only Nil w w' := by
  go_enter Try.func5, Try.ntmps5
  go_wp2
  go_ret2
  exact ⟨w.heap.size, rfl, Blk.new _ _ _, Nat.le_refl _, (Only.refl _ _).alloc _⟩
abbrev abcS : ByteArray := ⟨#[97, 98, 99]⟩
abbrev abS : ByteArray := ⟨#[97, 98]⟩
abbrev cS : ByteArray := ⟨#[99]⟩
theorem Offer_awake (w : World) (h : Fl w b noS noS (.slice none 0 0) 0 0) : Calls Try.prog 17 #[.pointer (some ⟨b, 0, none⟩), .string abcS] w fun x w' => x = .returned (.tuple #[.int .i64 3, .int .i64 0]) ∧ Fl w' b abcS noS (.slice none 0 0) 3 0 ∧ Only (One b) w w' := by
  have h' : Blk w b 58 _ := h
  have z := h'.lt
  have c0 := h'.cell 0
  have c1 := h'.cell 1
  have c3 := h'.cell 3
  have c8 := h'.cell 8
  have c11 := h'.cell 11
  have f3 := h'.frozen 3
  have f11 := h'.frozen 11
  have n0 : noS.size = 0 := rfl
  have n3 : abcS.size = 3 := rfl
  have HH := Lib.hid h'
  clear h' h
  go_enter Try.func17, Try.ntmps17
  go_wp2
  go_region
  go_wp2
  go_region
  go_wp2
  go_ret2
  have e : noS ++ abcS.extract 0 3 = abcS := by decide +kernel
  have hb := (HH.out.set 3 (.string (noS ++ abcS.extract 0 3))).set 11 (.int .i64 3)
  refine ⟨rfl, ?_, ?_⟩
  · unfold Fl
    rw [e] at hb ⊢
    exact hb.drew.drew
  · exact ((((Only.refl (One b) w).set1 3 _).set1 11 _).drew).drew
theorem nexts_any {W T : ByteArray} {way : Value} {A t : Int} (w : World) (h : Fl w b W T way A t) : Calls Try.prog 31 #[.pointer (some ⟨b, 0, none⟩)] w fun x w' => ∃ g, x = .returned (.func (.func 34) #[] #[.pointer (some ⟨g, 0, none⟩)]) ∧ Blk w' g 25 #[.pointer (some ⟨b, 0, none⟩)] ∧ Only Nil w w' := by
  have hmf := mkf Try.prog
  have c0 := h.cell 0
  have z := h.lt
  clear h
  go_enter Try.func31, Try.ntmps31
  go_wp2
  go_ret
  exact ⟨w.heap.size, rfl, Blk.new _ _ _, (Only.refl _ _).alloc _⟩
theorem nexts1_awake {T : ByteArray} {way : Value} {A t : Int} {g : Nat} (w : World) (h : Fl w b abcS T way A t) (hg : Blk w g 25 #[.pointer (some ⟨b, 0, none⟩)]) : Calls Try.prog 34 #[.string abS, .bool false, .pointer (some ⟨g, 0, none⟩)] w fun x w' => x = .returned (.bool true) ∧ w = w' := by
  have c3 := h.cell 3
  have c8 := h.cell 8
  have z := h.lt
  have d0 := hg.cell 0
  have zg := hg.lt
  have n3 : abcS.size = 3 := rfl
  have n2 : abS.size = 2 := rfl
  have e : abcS.extract 0 2 = abS := by decide +kernel
  clear h hg
  go_enter Try.func34, Try.ntmps34
  go_wp2
  go_ret
  exact ⟨rfl, rfl⟩
def encP (p : ByteArray × Bool) : List Value := [.string p.1, .bool p.2]
theorem encP_one : ∀ x, ∀ u ∈ encP x, u.oneCell' = true := fun _ u hu => by
  simp [encP] at hu
  rcases hu with rfl | rfl <;> rfl
theorem pc_info : (Try.prog.info? 64).map (fun i => (i.zero, i.size, i.bytes)) = some (some (.agg #[.string ByteArray.empty, .bool false]), 2, 24) := by kernel_rfl
def StPost (w : World) (b : Nat) (x : Ending) (w' : World) : Prop := ∃ g o cap, x = .returned (.bool true) ∧ Fl w' b cS noS (.slice (some ⟨g, o, none⟩) 1 cap) 3 0 ∧ w'.cell? ⟨g, o, none⟩ = some (.string abS) ∧ w'.cell? ⟨g, o + 1, none⟩ = some (.bool false) ∧ 1 ≤ cap ∧ cap ≤ maxLen ∧ g ≠ b ∧ Only (One b) w w'
set_option maxRecDepth 100000 in
theorem Sent_awake (w : World) (h : Fl w b abcS noS (.slice none 0 0) 3 0) : Calls Try.prog 20 #[.pointer (some ⟨b, 0, none⟩), .string abS, .bool false] w (StPost w b) := by
  have hN := Lib.hid (nexts_any w h)
  have h1 := Lib.hid (fun W g (ho : Only Nil w W) hg => nexts1_awake (g := g) W (show Fl W b abcS noS (.slice none 0 0) 3 0 from Blk.kept h ho (fun hh => hh)) hg)
  have c9 := h.cell 9
  have z := h.lt
  obtain ⟨A0, m0, p0, hwy⟩ : ∃ A0 m0 p0, Value.slice A0 m0 p0 = Value.slice none 0 0 := ⟨none, 0, 0, rfl⟩
  unfold Fl at h
  rw [← hwy] at h
  have hK := Lib.hid (fun W (ho : Only Nil w W) => Blk.kept h ho (fun hh => hh))
  have HW := Lib.hid hwy
  have HOw : Hid (∀ W, Ow encP 2 W 0 64 (.slice A0 m0 p0) []) := Lib.hid (fun W => by rw [hwy]; exact Ow.nil)
  have n3 : abcS.size = 3 := rfl
  have n2 : abS.size = 2 := rfl
  have e : abcS.extract 2 3 = cS := by decide +kernel
  clear h hwy
  go_enter Try.func20, Try.ntmps20
  go_wp2_with (first
    | (go_at_call 31; (with_reducible refine (hN.out).mono ?_); rintro e w1 ⟨g, rfl, hg, ho1⟩; have hB1 := hK.out _ ho1; have z1 := hB1.lt; have d0 := hB1.cell 0; have d3 := hB1.cell 3; have d7 := hB1.cell 7; have d9 := hB1.cell 9; have f3 := hB1.frozen 3; have f7 := hB1.frozen 7; have f9 := hB1.frozen 9)
    | (go_at_call 34; (with_reducible refine (h1.out _ _ ho1 hg).mono ?_); rintro e w2 ⟨rfl, rfl⟩; have hB3 := hB1.set 3 (.string cS); have hN3 : Blk ((w1.setCell ⟨b, 3, none⟩ (.string cS)).alloc (.cells #[.string abS, .bool false] 64)) w1.heap.size 64 #[.string abS, .bool false] := (by simpa using Blk.new (w1.setCell ⟨b, 3, none⟩ (.string cS)) 64 #[.string abS, .bool false]); have t1 := Lib.hid (Src.one (P := Try.prog) (enc := encP) (tx := 56) Try.underlying56 (abS, false) 1 rfl hN3 rfl (encP_one _)); have hB3h := Lib.hid hB3; clear hB3 hN3)
    | (at_builtin
       refine wpList_app2 rfl (.tmp 52) (.tmp 56) _ _ rfl 0 64 Try.underlying56 pc_info rfl _ _ rfl (HOw.out _) _ [(abS, false)] rfl t1.out (by decide) (by decide) (Nat.zero_le _) 1 rfl _ rfl ?_
       intro A6 c6 w6 hown6 ho6 hg6; have hB6 := (hB3h.out.alloc (.cells #[.string abS, .bool false] 64)).kept ho6 (fun hh => by unfold ownB at hh; rw [HW.out] at hh; cases hh); have y7 := hB6.frozen 7; have y9 := hB6.frozen 9; have x7 := hB6.cell 7; have x9 := hB6.cell 9; have z6 := hB6.lt; obtain ⟨g', o', y, rfl, _, hy, _, hc6⟩ := (hown6.sq (fun _ _ => rfl) rfl).at_ (k := 0) (by decide); have hf6 := hown6.ne hB6 (by decide); have HM : Hid (1 ≤ c6 ∧ c6 ≤ maxLen) := Lib.hid (by obtain ⟨_, cq, hcp6, hl6, hm6⟩ := hown6.form; injection hcp6 with _ _ hc7; subst hc7; exact ⟨hl6, hm6⟩); have HY := Lib.hid hy; have HC6 := Lib.hid hc6; have HF6 := Lib.hid hf6; have HO6 := Lib.hid ho6; have HB6 := Lib.hid hB6; have HOW := Lib.hid hown6; clear hy hc6 hf6 hg6 ho6 hown6 hB6)
    )
  go_ret
  have ho6 := HO6.out
  have hgb : g' ≠ b := fun hh => HF6.out (by rw [hh]; rfl)
  obtain ⟨g2, o2, y2, hA2, _, hy2, _, hc2⟩ := ((((HOW.out.set HF6.out 7 (.slice (some ⟨g', o', none⟩) 1 c6)).set HF6.out 9 (.bool false))).sq (fun _ _ => rfl) rfl).at_ (k := 0) (by decide)
  injection hA2 with hA2
  injection hA2 with hA3 hA4
  subst hA3 hA4
  simp at hy2
  subst hy2
  have q0 := hc2 0 (by decide)
  have q1 := hc2 1 (by decide)
  simp only [Nat.zero_mul, Nat.add_zero] at q0 q1
  have hBf := (HB6.out.set 7 (.slice (some ⟨g', o', none⟩) 1 c6)).set 9 (.bool false)
  have hoo : Only (One b) w w6 := (((ho1.of_nil (One b)).set1 3 (.string cS)).alloc (.cells #[.string abS, .bool false] 64)).trans (ho6.weaken fun i _ hh => by unfold ownB at hh; rw [HW.out] at hh; cases hh)
  refine ⟨g', o', c6, rfl, ?_, ?_, ?_, HM.out.1, HM.out.2, hgb, (hoo.set1 7 _).set1 9 _⟩
  · rw [HW.out] at hBf
    exact hBf
  · exact q0
  · exact q1
theorem abNe : (abS.toList == abcS.toList) = false := by decide +kernel
theorem Came_no {g o cap : Nat} (w : World) (h : Fl w b cS noS (.slice (some ⟨g, o, none⟩) 1 cap) 3 0) (q0 : w.cell? ⟨g, o, none⟩ = some (.string abS)) (q1 : w.cell? ⟨g, o + 1, none⟩ = some (.bool false)) :
    Calls Try.prog 21 #[.pointer (some ⟨b, 0, none⟩), .string abcS, .bool false] w fun x w' => x = .returned (.bool false) ∧ w = w' := by
  have c7 := h.cell 7
  have z := h.lt
  have hne := abNe
  have hne2 : ¬ abS.toList = abcS.toList := by decide +kernel
  clear h
  go_enter Try.func21, Try.ntmps21
  go_wp2
  go_ret
  exact ⟨rfl, rfl⟩
theorem Came_ab {g o cap : Nat} (w : World) (h : Fl w b cS noS (.slice (some ⟨g, o, none⟩) 1 cap) 3 0) (q0 : w.cell? ⟨g, o, none⟩ = some (.string abS)) (q1 : w.cell? ⟨g, o + 1, none⟩ = some (.bool false)) (hc : 1 ≤ cap) :
    Calls Try.prog 21 #[.pointer (some ⟨b, 0, none⟩), .string abS, .bool false] w fun x w' => ∃ way, x = .returned (.bool true) ∧ Fl w' b cS abS way 3 0 ∧ Only (One b) w w' := by
  have h' : Blk w b 58 _ := h
  have c0 := h'.cell 0
  have c5 := h'.cell 5
  have c7 := h'.cell 7
  have z := h'.lt
  have f5 := h'.frozen 5
  have f7 := h'.frozen 7
  have f10 := h'.frozen 10
  have c10 := h'.cell 10
  have hci : (1 : Int) ≤ cap := by omega
  have n0 : noS.size = 0 := rfl
  have n2 : abS.size = 2 := rfl
  have e : noS ++ abS = abS := by decide +kernel
  have HH := Lib.hid h'
  clear h h'
  go_enter Try.func21, Try.ntmps21
  go_wp2
  go_ret
  have hb := ((HH.out.set 7 (.slice (some ⟨g, o, none⟩) 0 0)).set 10 (.bool false)).set 5 (.string abS)
  exact ⟨_, rfl, hb, (((Only.refl (One b) w).set1 7 _).set1 10 _).set1 5 _⟩
theorem Read_ab {way : Value} (w : World) (h : Fl w b cS abS way 3 0) : Calls Try.prog 22 #[.pointer (some ⟨b, 0, none⟩), .int .i64 9] w fun x w' => x = .returned (.string abS) ∧ Fl w' b cS ByteArray.empty way 3 2 ∧ Only (One b) w w' := by
  have h' : Blk w b 58 _ := h
  have c5 := h'.cell 5
  have c13 := h'.cell 13
  have z := h'.lt
  have f5 := h'.frozen 5
  have f13 := h'.frozen 13
  have n2 : abS.size = 2 := rfl
  have e : abS.extract 0 2 = abS := by decide +kernel
  have e2 : abS.extract 2 2 = noS := by decide +kernel
  have HH := Lib.hid h'
  clear h h'
  go_enter Try.func22, Try.ntmps22
  go_wp2
  go_ret
  have hb := (HH.out.set 5 (.string ByteArray.empty)).set 13 (.int .i64 2)
  exact ⟨rfl, hb, ((Only.refl (One b) w).set1 5 _).set1 13 _⟩
theorem Done_awake {W T : ByteArray} {way : Value} {A t : Int} (w : World) (h : Fl w b W T way A t) : Calls Try.prog 15 #[.pointer (some ⟨b, 0, none⟩)] w fun x w' => x = .returned (.bool false) ∧ w = w' := by
  have c10 := h.cell 10
  have z := h.lt
  clear h
  go_enter Try.func15, Try.ntmps15
  go_wp2
  go_ret
  exact ⟨rfl, rfl⟩
end
end Go.Proofs.Ytikjifhilemocaa
