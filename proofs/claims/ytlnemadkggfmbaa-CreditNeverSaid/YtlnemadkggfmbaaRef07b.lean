/- What the calls of the document's own ledger do to it. -/
import Derived.Test.YtlnemadkggfmbaaRef07
import Derived.Test.YtlnemadkggfmbaaLaw05
import Derived.Deep.RegionLaw
namespace Go.Proofs.Ytlnemadkggfmbaa
open Go.RowKit

def RPost (w : World) (xb base : Nat) (r : Value) (C' S' : Int) (L' : List Gn) (x : Ending) (w' : World) : Prop :=
  ∃ v', x = .returned r ∧ Rl w' xb base C' S' v' L' ∧ Only (One xb) w w'
theorem Ow.put3L {w : World} {base : Nat} {e : TypeId} {g o n cap : Nat} {l : List Ln} (h : Ow encL 3 w base e (.slice (some ⟨g, o, none⟩) n cap) l) (i : Nat) (hi : i < l.length) (y : Ln) :
    Ow encL 3 (((w.setCell ⟨g, o + i * 3, none⟩ (.int .i64 y.id)).setCell ⟨g, o + i * 3 + 1, none⟩ (.int .i64 y.n)).setCell ⟨g, o + i * 3 + 2, none⟩ (.int .i64 y.s)) base e (.slice (some ⟨g, o, none⟩) n cap) (l.set i y) := by
  obtain ⟨x, hx⟩ : ∃ x, l[i]? = some x := ⟨_, List.getElem?_eq_getElem hi⟩
  have h1 := h.putC encL_len i 0 hx (by decide) ⟨y.id, x.n, x.s⟩ (.int .i64 y.id) rfl
  have h2 := h1.putC encL_len i 1 (x := ⟨y.id, x.n, x.s⟩) (by simp [hi]) (by decide) ⟨y.id, y.n, x.s⟩ (.int .i64 y.n) rfl
  have h3 := h2.putC encL_len i 2 (x := ⟨y.id, y.n, x.s⟩) (by simp [hi]) (by decide) y (.int .i64 y.s) rfl
  simpa using h3
theorem la0 {α : Type} {Y : List α} {k : Nat} (h : Y.length = k) : ([] : List α).length + Y.length = k := by simpa using h
theorem la3 {α : Type} {Y Z : List α} {k m : Nat} (h : Y.length = k) (h3 : Z.length = m) : Y.length + Z.length = k + m := by omega
def StPost (w : World) (M : List Ln) (x : Ending) (w' : World) : Prop := ∃ A' c', x = .returned (.slice A' M.length c') ∧ Ow encL 3 w' w.heap.size 57 (.slice A' M.length c') M ∧ Only Nil w w'
set_option maxHeartbeats 2000000 in
theorem set_any (A : Option Addr) (cap i : Nat) (M : List Ln) (y : Ln) (w : World) (hs : Sq encL 3 w w.heap.size A M) (hl : M.length ≤ 1000) (hi : i < M.length) :
    Calls Try.prog 38 #[.slice A M.length cap, .int .i64 i, .agg #[.int .i64 y.id, .int .i64 y.n, .int .i64 y.s]] w (StPost w (M.set i y)) := by
  have hn1 := (Only.refl Nil w).alloc (.cells #[.int .i64 y.id, .int .i64 y.n, .int .i64 y.s] 57)
  have hB1 := Blk.new w 57 #[.int .i64 y.id, .int .i64 y.n, .int .i64 y.s]
  have hn2 := hn1.alloc (.cells #[] 57)
  have hB2 := hB1.alloc (.cells #[] 57)
  have hO2 := Ow.lit (enc := encL) (sz := 3) (e := 57) (base := w.heap.size) (w.alloc (.cells #[.int .i64 y.id, .int .i64 y.n, .int .i64 y.s] 57)) (cs := #[]) [] rfl rfl (by decide) (by simp)
  have hO2' : Ow encL 3 ((w.alloc (.cells #[.int .i64 y.id, .int .i64 y.n, .int .i64 y.s] 57)).alloc (.cells #[] 57)) w.heap.size 57 (.slice (some ⟨w.heap.size + 1, 0, none⟩) 0 0) [] := by simpa using hO2
  have hne2 : (Value.slice (some ⟨w.heap.size + 1, 0, none⟩) 0 0).ownBlock ≠ some w.heap.size := by simp [Value.ownBlock]
  have HL : Hid (M.length = M.length) := Lib.hid rfl
  have HS : Hid ((M.set i y).length = M.length) := Lib.hid (by simp)
  have hii : (i : Int) < (M.length : Int) := by omega
  clear hO2
  generalize hn : M.length = n at *
  have HN := Lib.hid hn
  have s1 := Src.sqn (P := Try.prog) (tx := 30) Try.underlying30 cap n (hs.go hn2) (fun x _ => encL_len x) (fun x _ => encL_one x) (by decide) hn
  clear hn
  go_enter Try.func38, Try.ntmps38
  go_wp2_with (first
    | (at_builtin
       refine wpList_app2 rfl (.tmp 8) (.tmp 9) _ _ rfl w.heap.size 57 Try.underlying30 line_info rfl _ _ rfl hO2' _ M rfl s1 (by rw [la0 HN.out]; omega) (by decide) (by simp; omega) n (la0 HN.out) M rfl ?_
       intro A6 c6 w6 hown6 ho6 hg6
       have hB6 := hB2.kept ho6 hne2
       have ho6' : Only Nil w w6 := hn2.own_nil hO2' ho6
       have k0 := hB6.cell 0
       have k1 := hB6.cell 1
       have k2 := hB6.cell 2
       obtain ⟨g6, o6, x6, rfl, hg6', _, _, hc6⟩ := (hown6.sqn (fun x _ => encL_len x)).at_ (k := i) (by have := HN.out; omega)
       have y0 : w6.cell? ⟨g6, o6 + i * 3, none⟩ = some (.int .i64 x6.id) := hc6 0 (by decide)
       have y1 : w6.cell? ⟨g6, o6 + i * 3 + 1, none⟩ = some (.int .i64 x6.n) := hc6 1 (by decide)
       have y2 : w6.cell? ⟨g6, o6 + i * 3 + 2, none⟩ = some (.int .i64 x6.s) := hc6 2 (by decide)
       have z0 := hown6.frzN (o6 + i * 3)
       have z1 := hown6.frzN (o6 + i * 3 + 1)
       have z2 := hown6.frzN (o6 + i * 3 + 2)
       have hgl := (hown6.lt (g := g6) rfl).1
       have hp := hown6.put3L i (by have := HN.out; omega) y
       clear hc6)
    )
  go_ret
  exact ⟨some ⟨g6, o6, none⟩, c6, by rw [HS.out]; rfl, by rw [HS.out]; exact hp, ((ho6'.setNew hgl _ _).setNew hgl _ _).setNew hgl _ _⟩
section
variable {w w' : World} {xb base : Nat} {C S : Int} {v : Value} {L : List Gn}
theorem RClose_out (id : Int) (w : World) (h : Rl w xb base C S v L) (hl : L.length ≤ 1000) (hid : outL L id) :
    Calls Try.prog 23 #[.pointer (some ⟨xb, 0, none⟩), .int .i64 id] w fun e w' => e = .returned (.int .i64 7) ∧ Only Nil w w' := by
  go_enter Try.func23, Try.ntmps23
  go_wp2_with (first
    | (go_at_call 29; (with_reducible refine (Find_out id _ h hl hid).mono ?_); rintro e w1 ⟨rfl, rfl⟩)
    )
  go_ret
  exact ⟨rfl, Only.refl _ _⟩
theorem lns_erase (L : List Gn) (i : Nat) : lns (L.eraseIdx i) = (lns L).take i ++ (lns L).drop (i + 1) := by simp [lns, List.eraseIdx_eq_take_drop_succ, List.map_take, List.map_drop]
set_option maxHeartbeats 2000000 in
theorem RClose_in (i : Nat) (x : Gn) (id : Int) (w : World) (h : Rl w xb base C S v L) (hl : L.length ≤ 1000) (hr : rise L) (hx : L[i]? = some x) (hid : x.id = id) :
    Calls Try.prog 23 #[.pointer (some ⟨xb, 0, none⟩), .int .i64 id] w (RPost w xb base (.int .i64 0) C S (L.eraseIdx i)) := by
  obtain ⟨A, cap, rfl, hcp, hm⟩ := h.own.form
  rw [List.length_map] at h hcp
  have hF := Lib.hid (fun W (k : Rl W xb base C S (.slice A L.length cap) L) => Find_in i x id W k hl hr hx hid)
  have hil := (List.getElem?_eq_some_iff.1 hx).1
  have hsq := h.own.sqn (fun x _ => encL_len x)
  have HL : Hid ((lns L).length = L.length) := Lib.hid (by simp [lns])
  have HE := Lib.hid (lns_erase L i)
  obtain ⟨c0, c1, c2⟩ := h.facts
  clear hx hr hid
  generalize hn : L.length = n at *
  have HN := Lib.hid hn
  clear hn
  have hk1 := (Only.refl Nil w).alloc (.cells #[] 57)
  have hr1 := h.kept hk1
  have g2 := hr1.facts.2.2
  have zb := h.blk.lt
  have hhb := h.hb
  have hsz := h.sz
  have hO1 := Ow.lit (enc := encL) (sz := 3) (e := 57) (base := w.heap.size) w (cs := #[]) [] rfl rfl (by decide) (Nat.le_refl _)
  have hne1 := hO1.ne hr1.blk (by decide)
  have hl1 : Hid (((lns L).take i).length = i) := Lib.hid (by rw [List.length_take]; have := HL.out; omega)
  have hl2 : Hid (((lns L).drop (i + 1)).length = n - (i + 1)) := Lib.hid (by rw [List.length_drop]; have := HL.out; omega)
  have s1 := Src.sqn (P := Try.prog) (tx := 30) Try.underlying30 cap i ((hsq.go hk1).take i) (fun x _ => encL_len x) (fun x _ => encL_one x) (by decide) hl1.out
  have T3 : Hid (∀ (W : World) (A' : Option Addr), Only Nil w W → (i + 1 < n → A' = A.map (·.add ((i + 1) * 3))) → Src Try.prog 3 30 (.slice A' (n - (i + 1)) (cap - (i + 1))) ((lns L).drop (i + 1)).length (((lns L).drop (i + 1)).flatMap encL) W) :=
    Lib.hid fun W A' hW hA => Src.sqn Try.underlying30 _ _ ((hsq.go hW).dropped (i + 1) (fun hl => hA (by have := HL.out; omega))) (fun x _ => encL_len x) (fun x _ => encL_one x) (by decide) hl2.out
  have hi1 : (i : Int) ≤ cap := by omega
  have hi2 : (i : Int) + 1 ≤ (n : Int) := by omega
  have hi3 : (i : Int) ≤ (n : Int) := by omega
  obtain ⟨ga, oa, _, rfl, _, _, _, _⟩ := hsq.at_ (k := 0) (by have := HL.out; omega)
  clear hsq
  go_enter Try.func23, Try.ntmps23
  go_wp2_with (first
    | (go_at_call 29; (with_reducible refine (hF.out _ h).mono ?_); rintro e w1 ⟨rfl, rfl⟩)
    | (at_builtin
       refine wpList_app2 rfl (.tmp 12) (.tmp 18) _ _ rfl w.heap.size 57 Try.underlying30 line_info rfl _ _ rfl hO1 _ ((lns L).take i) rfl s1 (by rw [la0 hl1.out]; omega) (by decide) hk1.size i (la0 hl1.out) ((lns L).take i) rfl ?_
       intro A6 c6 w6 hown6 ho6 hg6
       have ho6' := hk1.own_nil hO1 ho6
       have hr6 := h.kept ho6'
       have k62 := hr6.facts.2.2)
    | (at_builtin
       refine wpList_app2 rfl (.tmp 21) (.tmp 28) _ _ rfl w.heap.size 57 Try.underlying30 line_info rfl _ _ rfl hown6 _ ((lns L).drop (i + 1)) rfl (T3.out _ _ ho6' (by intro hh; first | (exfalso; omega) | (rw [if_neg (by omega)]; simp [Addr.add_lit]) | simp [Addr.add_lit])) (by rw [la3 hl1.out hl2.out]; omega) (by decide) ho6'.size (i + (n - (i + 1))) (la3 hl1.out hl2.out) ((lns L).take i ++ (lns L).drop (i + 1)) rfl ?_
       intro A7 c7 w7 hown7 ho7 hg7
       have ho7' := ho6'.own_nil hown6 ho7
       have hr7 := h.kept ho7'
       have k72 := hr7.blk.cell 2
       have f72 := hr7.blk.frozen 2
       have hne7 := hown7.ne hr7.blk (by decide))
    )
  all_goals go_ret
  all_goals
    refine ⟨_, rfl, ⟨hr7.blk.set 2 _, ?_, hhb⟩, (ho7'.of_nil (One xb)).setCell (p := ⟨xb, 2, none⟩) (fun _ => rfl) _⟩
    rw [HE.out]
    exact (hown7.mono hsz).set hne7 2 _
theorem RSpend_out (id k : Int) (w : World) (h : Rl w xb base C S v L) (hl : L.length ≤ 1000) (hid : outL L id) :
    Calls Try.prog 26 #[.pointer (some ⟨xb, 0, none⟩), .int .i64 id, .int .i64 k] w fun e w' => e = .returned (.int .i64 7) ∧ Only Nil w w' := by
  go_enter Try.func26, Try.ntmps26
  go_wp2_with (first
    | (go_at_call 29; (with_reducible refine (Find_out id _ h hl hid).mono ?_); rintro e w1 ⟨rfl, rfl⟩)
    )
  go_ret
  exact ⟨rfl, Only.refl _ _⟩
theorem RSpend_neg (i : Nat) (x : Gn) (id k : Int) (w : World) (h : Rl w xb base C S v L) (hl : L.length ≤ 1000) (hr : rise L) (hx : L[i]? = some x) (hid : x.id = id) (hk : k < 0) :
    Calls Try.prog 26 #[.pointer (some ⟨xb, 0, none⟩), .int .i64 id, .int .i64 k] w fun e w' => e = .returned (.int .i64 2) ∧ Only Nil w w' := by
  have hP := Lib.hid (fun W (k : Rl W xb base C S v L) => Find_in i x id W k hl hr hx hid)
  clear hx hr hid
  go_enter Try.func26, Try.ntmps26
  go_wp2_with (first
    | (go_at_call 29; (with_reducible refine (hP.out _ h).mono ?_); rintro e w1 ⟨rfl, rfl⟩)
    )
  go_ret
  exact ⟨rfl, Only.refl _ _⟩
theorem RSpend_over (i : Nat) (x : Gn) (id k : Int) (w : World) (h : Rl w xb base C S v L) (hl : L.length ≤ 1000) (hr : rise L) (hx : L[i]? = some x) (hid : x.id = id) (hk : 0 ≤ k) (hf : frI C x.n < k) :
    Calls Try.prog 26 #[.pointer (some ⟨xb, 0, none⟩), .int .i64 id, .int .i64 k] w fun e w' => e = .returned (.int .i64 9) ∧ Only Nil w w' := by
  have hP := Lib.hid (fun W (k : Rl W xb base C S v L) => Find_in i x id W k hl hr hx hid)
  have hF := Lib.hid (fun W (k : Rl W xb base C S v L) => RFree_in i x id W k hl hr hx hid)
  clear hx hr hid
  generalize frI C x.n = f at *
  go_enter Try.func26, Try.ntmps26
  go_wp2_with (first
    | (go_at_call 29; (with_reducible refine (hP.out _ h).mono ?_); rintro e w1 ⟨rfl, rfl⟩)
    | (go_at_call 28; (with_reducible refine (hF.out _ h).mono ?_); rintro e w2 ⟨rfl, ho2⟩)
    )
  go_ret
  exact ⟨rfl, ho2⟩
theorem set_ghost (A : Option Addr) (cap xb base i : Nat) (C S : Int) (L : List Gn) (y : Gn) (hl : L.length ≤ 1000) (hil : i < L.length) (W : World) (q : Rl W xb base C S (.slice A L.length cap) L) :
    Calls Try.prog 38 #[.slice A L.length cap, .int .i64 i, .agg #[.int .i64 y.id, .int .i64 y.n, .int .i64 y.s]] W fun x w' => ∃ A' c', x = .returned (.slice A' L.length c') ∧ Ow encL 3 w' W.heap.size 57 (.slice A' L.length c') (lns (L.set i y)) ∧ Only Nil W w' := by
  have HL : (lns L).length = L.length := by simp [lns]
  have := set_any A cap i (lns L) y.ln W (q.own.sqn (fun x _ => encL_len x)) (by omega) (by omega)
  rw [HL] at this
  refine this.mono ?_
  rintro x w' ⟨A', c', rfl, hO, ho⟩
  have e : (lns L).set i y.ln = lns (L.set i y) := List.map_set.symm
  rw [e] at hO ⊢
  have e2 : (lns (L.set i y)).length = L.length := by simp [lns]
  rw [e2] at hO ⊢
  exact ⟨A', c', rfl, hO, ho⟩
theorem lns_set (L : List Gn) (i : Nat) (x : Gn) : lns (L.set i x) = (lns L).set i x.ln := List.map_set
theorem RGrow_out (id k : Int) (w : World) (h : Rl w xb base C S v L) (hl : L.length ≤ 1000) (h0 : (id == 0) = false) (hid : outL L id) :
    Calls Try.prog 24 #[.pointer (some ⟨xb, 0, none⟩), .int .i64 id, .int .i64 k] w fun e w' => e = .returned (.int .i64 7) ∧ Only Nil w w' := by
  go_enter Try.func24, Try.ntmps24
  go_wp2_with (first
    | (go_at_call 29; (with_reducible refine (Find_out id _ h hl hid).mono ?_); rintro e w1 ⟨rfl, rfl⟩)
    )
  go_ret
  exact ⟨rfl, Only.refl _ _⟩
theorem RGrow_0 (k : Int) (w : World) (h : Rl w xb base C S v L) (hg : gOk C L) (hk : i64Ok k) :
    Calls Try.prog 24 #[.pointer (some ⟨xb, 0, none⟩), .int .i64 0, .int .i64 k] w (RPost w xb base (.int .i64 (growE C k)) (growN C k) S L) := by
  obtain ⟨c0, c1, c2⟩ := h.facts
  have f0 := h.blk.frozen 0
  have hG := Lib.hid (fun W => rgrow_any C k W hg.1 hk)
  have hne := h.own.ne h.blk (by decide)
  clear hg hk
  generalize growE C k = e at *
  generalize growN C k = m at *
  go_enter Try.func24, Try.ntmps24
  go_wp2_with (first
    | (go_at_call 37; (with_reducible refine (hG.out _).mono ?_); rintro e w1 ⟨rfl, rfl⟩)
    )
  go_ret
  exact ⟨_, rfl, ⟨h.blk.set 0 _, h.own.set hne 0 _, h.hb⟩, (Only.refl (One xb) w).set1 0 _⟩
end
end Go.Proofs.Ytlnemadkggfmbaa
