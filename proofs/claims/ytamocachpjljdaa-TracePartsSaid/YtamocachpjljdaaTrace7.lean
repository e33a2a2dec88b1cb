/- The moves of a stream, and their data. -/
import Derived.Test.YtamocachpjljdaaTrace5
namespace Go.Proofs.Ytamocachpjljdaa
open Go.RowKit

def ofM (L : List Mv) (st : Int) : List Mv := L.filter fun m => m.st == st
def dataM (L : List Mv) (wh st : Int) : List UInt8 := ((ofM L st).filter fun m => m.wh == wh).flatMap fun m => m.s.data.toList
theorem ofM_snoc {L : List Mv} {k : Nat} {x : Mv} (st : Int) (h : L[k]? = some x) : ofM (L.take (k + 1)) st = if x.st = st then ofM (L.take k) st ++ [x] else ofM (L.take k) st := by
  unfold ofM
  rw [List.take_add_one, h, List.filter_append]
  by_cases e : x.st = st
  · simp [e]
  · simp [e]
theorem ofM_len (L : List Mv) (st : Int) : (ofM L st).length ≤ L.length := List.length_filter_le ..
def dM (L : List Mv) (wh : Int) : List UInt8 := (L.filter fun m => m.wh == wh).flatMap fun m => m.s.data.toList
theorem dM_snoc {L : List Mv} {k : Nat} {x : Mv} (wh : Int) (h : L[k]? = some x) : dM (L.take (k + 1)) wh = if x.wh = wh then dM (L.take k) wh ++ x.s.data.toList else dM (L.take k) wh := by
  unfold dM
  rw [List.take_add_one, h, List.filter_append]
  by_cases e : x.wh = wh
  · simp [e]
  · simp [e]
theorem dM_len {L : List Mv} (wh : Int) (h : ∀ m ∈ L, m.s.size ≤ 400) : (dM L wh).length ≤ L.length * 400 := by
  induction L with
  | nil => simp [dM]
  | cons m L ih =>
    have h2 := ih (fun x hx => h x (List.mem_cons_of_mem _ hx))
    have h1 := h m (List.mem_cons_self ..)
    have hs : m.s.data.toList.length = m.s.size := by simp
    have e : dM (m :: L) wh = (if m.wh = wh then m.s.data.toList else []) ++ dM L wh := by
      unfold dM
      by_cases e : m.wh = wh <;> simp [e]
    rw [e, List.length_append, List.length_cons]
    split <;> (try simp only [List.length_nil]) <;> omega
set_option maxRecDepth 100000 in
set_option maxHeartbeats 4000000 in
theorem Of_any (A : Option Addr) (cap : Nat) (L : List Mv) (st : Int) (w : World) (hS : Sq encM 5 w w.heap.size A L) (hc : L.length ≤ cap) (h3 : L.length ≤ 1000) :
    Calls Try.prog 16 #[.slice A L.length cap, .int .i64 st] w fun x w' => ∃ A' c', x = .returned (.slice A' (ofM L st).length c') ∧ Ow encM 5 w' w.heap.size 28 (.slice A' (ofM L st).length c') (ofM L st) ∧ Only Nil w w' := by
  obtain ⟨n, hn⟩ : ∃ n, n = L.length := ⟨_, rfl⟩
  obtain ⟨R, hR⟩ : ∃ R, R = ofM L st := ⟨_, rfl⟩
  rw [← hR]
  have HR := Lib.hid hR
  have HN := Lib.hid hn
  have HS := Lib.hid hS
  rw [← hn] at hc h3 ⊢
  clear hS hn hR
  go_enter Try.func16, Try.ntmps16
  go_wp2
  go_loopw [5, 10] (fun ov ii wr => ∃ (k m : Nat) (AO : Option Addr) (cO : Nat), k ≤ n ∧ m ≤ k ∧ ii = .int .i64 k ∧ ov = .slice AO m cO ∧ Ow encM 5 wr w.heap.size 28 (.slice AO m cO) (ofM (L.take k) st) ∧ Only Nil w wr) (fun _ ii _ => n - (intOf ii).toNat)
  case atStart => exact ⟨0, 0, none, 0, Nat.zero_le _, Nat.zero_le _, rfl, rfl, Ow.nil, Only.refl _ _⟩
  case round =>
    obtain ⟨k, m, AO, cO, hk, hmk, rfl, rfl, hO, ho⟩ := hrel
    by_cases hlt : k < n
    · have hlt' : (k : Int) < n := by omega
      obtain ⟨b, o, x, rfl, hb, hx, f0, f1, f2, f3, f4⟩ := mv_at (HS.out.go ho) (k := k) (by rw [← HN.out]; exact hlt)
      have HSN := Lib.hid (ofM_snoc st hx)
      have HO := Lib.hid ho
      have HW := Lib.hid hO
      have HM := Lib.hid hO.len.1
      by_cases hst : x.st = st
      · have HSN2 : Hid (ofM (L.take k) st ++ [x] = ofM (L.take (k + 1)) st) := Lib.hid (by rw [HSN.out, if_pos hst])
        have HL1 : Hid ((ofM (L.take k) st).length + [x].length = m + 1) := Lib.hid (by rw [← HM.out]; rfl)
        have hO4 := Lib.hid ((hO.alloc (.cells (mvC x) 28)).alloc (.cells (mvC x) 28))
        have HO4 := Lib.hid ((ho.alloc (.cells (mvC x) 28)).alloc (.cells (mvC x) 28))
        have HN4 : Hid (Blk ((wr.alloc (.cells (mvC x) 28)).alloc (.cells (mvC x) 28)) (wr.heap.size + 1) 28 (mvC x)) := Lib.hid (by
          have := Blk.new (wr.alloc (.cells (mvC x) 28)) 28 (mvC x)
          simpa using this)
        have T14 := Lib.hid (Src.one (P := Try.prog) (enc := encM) (tx := 22) Try.underlying22 x 1 rfl HN4.out rfl (encM_one _))
        obtain ⟨wh, en, st', nn, s⟩ := x
        simp only at f0 f1 f2 f3 f4 hst
        subst hst
        clear HSN hx ho hO
        dsimp only [mvC] at hO4 HO4 HN4
        go_wp2_with (first
          | (at_builtin
             refine wpList_app2 rfl (.tmp 18) (.tmp 20) _ _ rfl w.heap.size 28 Try.underlying22 mv_info rfl _ (ofM (L.take k) st') rfl hO4.out _ [⟨wh, en, st', nn, s⟩] rfl T14.out (by rw [HL1.out]; omega) (by decide) HO4.out.size (m + 1) HL1.out _ HSN2.out ?_
             intro A6 c6 w6 hown6 ho6 hg6
             have HO6 := Lib.hid (HO4.out.own_nil hO4.out ho6)
             clear ho6 hg6)
          )
        go_roundw
        case rel => exact ⟨k + 1, m + 1, A6, c6, by omega, by omega, by go_num, rfl, hown6, HO6.out⟩
        case measure => simp [intOf]; omega
      · have HSN2 : Hid (ofM (L.take (k + 1)) st = ofM (L.take k) st) := Lib.hid (by rw [HSN.out, if_neg hst])
        have hst2 : (x.st == st) = false := by rw [beq_eq_false_iff_ne]; exact hst
        obtain ⟨wh, en, st', nn, s⟩ := x
        simp only at f0 f1 f2 f3 f4 hst hst2
        clear HSN hx ho hO
        go_wp2
        go_roundw
        case rel => exact ⟨k + 1, m, AO, cO, by omega, by omega, by go_num, rfl, by rw [HSN2.out]; exact HW.out.alloc _, HO.out.alloc _⟩
        case measure => simp [intOf]; omega
    · obtain rfl : k = n := by omega
      have hlt' : ¬ (k : Int) < k := by omega
      have hT : L.take k = L := List.take_of_length_le (by rw [← HN.out]; exact Nat.le_refl _)
      rw [hT, ← HR.out] at hO
      have HW := Lib.hid hO
      clear hT hO
      go_wp2
      go_ret
      exact ⟨AO, cO, by rw [← HW.out.len.1]; rfl, by rw [← HW.out.len.1]; exact HW.out, ho⟩
set_option maxRecDepth 100000 in
set_option maxHeartbeats 4000000 in
theorem Data_any (A : Option Addr) (cap : Nat) (L : List Mv) (wt st : Int) (w : World) (hS : Sq encM 5 w w.heap.size A L) (hc : L.length ≤ cap) (h3 : L.length ≤ 300) (h4 : ∀ m ∈ L, m.s.size ≤ 400) :
    Calls Try.prog 17 #[.slice A L.length cap, .int .i64 wt, .int .i64 st] w fun x w' => x = .returned (.string (strOf (dataM L wt st))) ∧ Only Nil w w' := by
  have HOf := Lib.hid (Of_any A cap L st w hS hc (by omega))
  have hol := ofM_len L st
  have ho4 : ∀ m ∈ ofM L st, m.s.size ≤ 400 := fun m hm => h4 m (List.mem_filter.1 hm).1
  have e : dataM L wt st = dM (ofM L st) wt := rfl
  obtain ⟨R, hR⟩ : ∃ R, R = strOf (dM (ofM L st) wt) := ⟨_, rfl⟩
  rw [e, ← hR]
  have HR := Lib.hid hR
  have H4 := Lib.hid ho4
  obtain ⟨n, hn⟩ : ∃ n, n = (ofM L st).length := ⟨_, rfl⟩
  have HN := Lib.hid hn
  rw [← hn] at HOf hol
  generalize ofM L st = O at *
  clear hS hn hR ho4 e
  go_enter Try.func17, Try.ntmps17
  go_wp2_with (first
    | (go_at_call 16; (with_reducible refine (HOf.out).mono ?_); rintro e w1 ⟨A1, c1, rfl, hO1, ho1⟩; have HS := Lib.hid (hO1.sqn encM_len); have HC1 := Lib.hid hO1.len.2; have HO1 := Lib.hid ho1; clear hO1 ho1)
    )
  go_loopw [7, 14] (fun ov ii wr => ∃ (k m : Nat) (AO : Option Addr) (cO : Nat), k ≤ n ∧ m ≤ k * 400 ∧ ii = .int .i64 k ∧ ov = .slice AO m cO ∧ Ow encB 1 wr w1.heap.size 5 (.slice AO m cO) (dM (O.take k) wt) ∧ Only Nil w1 wr) (fun _ ii _ => n - (intOf ii).toNat)
  case atStart => exact ⟨0, 0, none, 0, Nat.zero_le _, Nat.zero_le _, rfl, rfl, Ow.nil, Only.refl _ _⟩
  case round =>
    obtain ⟨k, m, AO, cO, hk, hmk, rfl, rfl, hO, ho⟩ := hrel
    have hc1 := HC1.out.1
    by_cases hlt : k < n
    · have hlt' : (k : Int) < n := by omega
      obtain ⟨b, o, x, rfl, hb, hx, f0, f1, f2, f3, f4⟩ := mv_at (HS.out.go ho) (k := k) (by rw [← HN.out]; exact hlt)
      have HSN := Lib.hid (dM_snoc wt hx)
      have hxs := H4.out x (List.mem_of_getElem? hx)
      have HO := Lib.hid (HO1.out.trans ho)
      have HOO := Lib.hid ho
      have HW := Lib.hid hO
      have HM := Lib.hid hO.len.1
      by_cases hst : x.wh = wt
      · have HSN2 : Hid (dM (O.take k) wt ++ x.s.data.toList = dM (O.take (k + 1)) wt) := Lib.hid (by rw [HSN.out, if_pos hst])
        have HL1 : Hid ((dM (O.take k) wt).length + x.s.data.toList.length = m + x.s.size) := Lib.hid (by rw [← HM.out]; simp)
        have HBD : Hid ((dM (O.take k) wt).length + x.s.data.toList.length ≤ 1000000000) := Lib.hid (by rw [HL1.out]; omega)
        have hO4 := Lib.hid (hO.alloc (.cells (mvC x) 28))
        have HO4 := Lib.hid ((HO1.out.trans ho).alloc (.cells (mvC x) 28))
        have HOO4 := Lib.hid (ho.alloc (.cells (mvC x) 28))
        obtain ⟨wh, en, st', nn, s⟩ := x
        simp only at f0 f1 f2 f3 f4 hst hxs
        subst hst
        clear HSN hx ho hO
        dsimp only [mvC] at hO4 HO4 HOO4
        go_wp2_with (first
          | (at_builtin
             refine wpList_app2 rfl (.tmp 22) (.tmp 24) _ _ rfl w1.heap.size 5 Try.underlying43 u8_info rfl _ (dM (O.take k) wh) rfl hO4.out _ s.data.toList rfl (Src.str Try.underlying9 s) HBD.out (by decide) HOO4.out.size (m + s.size) HL1.out _ HSN2.out ?_
             intro A6 c6 w6 hown6 ho6 hg6
             have HOO6 := Lib.hid (HOO4.out.own_nil hO4.out ho6)
             clear ho6 hg6)
          )
        go_roundw
        case rel => exact ⟨k + 1, m + s.size, A6, c6, by omega, by omega, by go_num, rfl, hown6, HOO6.out⟩
        case measure => simp [intOf]; omega
      · have HSN2 : Hid (dM (O.take (k + 1)) wt = dM (O.take k) wt) := Lib.hid (by rw [HSN.out, if_neg hst])
        have hst2 : (x.wh == wt) = false := by rw [beq_eq_false_iff_ne]; exact hst
        obtain ⟨wh, en, st', nn, s⟩ := x
        simp only at f0 f1 f2 f3 f4 hst hst2
        clear HSN hx ho hO
        go_wp2
        go_roundw
        case rel => exact ⟨k + 1, m, AO, cO, by omega, by omega, by go_num, rfl, by rw [HSN2.out]; exact HW.out.alloc _, HOO.out.alloc _⟩
        case measure => simp [intOf]; omega
    · obtain rfl : k = n := by omega
      have hlt' : ¬ (k : Int) < k := by omega
      have hstr := hO.str (P := Try.prog) 43 5 9 Try.underlying43 Try.underlying5 Try.underlying9
      have hT : O.take k = O := List.take_of_length_le (by rw [← HN.out]; exact Nat.le_refl _)
      rw [hT, ← HR.out] at hstr
      clear hT hO
      go_wp2
      go_ret
      exact ⟨rfl, HO1.out.trans ho⟩
end Go.Proofs.Ytamocachpjljdaa
