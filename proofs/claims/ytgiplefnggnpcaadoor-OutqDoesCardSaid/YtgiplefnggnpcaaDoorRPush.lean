/- The document's own: a frame that is to wait, behind a list of such. What a list becomes, as plain data. -/
import Derived.Test.YtgiplefnggnpcaaDoorActs25
import Derived.Test.YtgiplefnggnpcaaDoorRight
namespace Go.Proofs.YtgiplefnggnpcaaDoor
open Go.RowKit Nd

/-- the first one that a frame is put together with -/
def Joins (G : List Frm) (f : Frm) (i : Nat) (g : Frm) : Prop := (f.t = 10 ∨ f.t = 11) ∧ G[i]? = some g ∧ fits f g = true ∧ ∀ j h, j < i → G[j]? = some h → fits f h = false
def Alone (G : List Frm) (f : Frm) : Prop := (f.t ≠ 10 ∧ f.t ≠ 11) ∨ ∀ g ∈ G, fits f g = false
/-- a list of frames, one more being pushed: the list, the answer -/
inductive Pushes (G : List Frm) (f : Frm) : List Frm → Int → Prop
  | bad : ¬ rightP f → Pushes G f G 2
  | kind : rightP f → f.t < 2 → Pushes G f G 13
  | join (i : Nat) (g : Frm) : rightP f → 2 ≤ f.t → Joins G f i g → Pushes G f (G.set i { g with n := g.n + f.n }) 0
  | full : rightP f → 2 ≤ f.t → Alone G f → 64 ≤ G.length → Pushes G f G 9
  | add : rightP f → 2 ≤ f.t → Alone G f → G.length < 64 → Pushes G f (G ++ [f]) 0
theorem pushes_some (G : List Frm) (f : Frm) : ∃ G' r, Pushes G f G' r := by
  by_cases hf : rightP f
  · by_cases h2 : f.t < 2
    · exact ⟨_, _, .kind hf h2⟩
    have key : Alone G f ∨ ∃ i g, Joins G f i g := by
      by_cases ht : f.t ≠ 10 ∧ f.t ≠ 11
      · exact .inl (.inl ht)
      · have hd := fit_dec f (G.map fun g => ⟨g, none, 0⟩)
        rcases hd with h1 | ⟨i, x, h1, h2, h3⟩
        · exact .inl (.inr fun g hg => h1 ⟨g, none, 0⟩ (List.mem_map.2 ⟨g, hg, rfl⟩))
        · rw [List.getElem?_map] at h1
          cases hg : G[i]? with
          | none => rw [hg] at h1; cases h1
          | some g =>
            rw [hg] at h1
            injection h1 with h1
            subst h1
            refine .inr ⟨i, g, by omega, hg, h2, fun j h hj hh => h3 j ⟨h, none, 0⟩ hj ?_⟩
            rw [List.getElem?_map, hh]
            rfl
    rcases key with hno | ⟨i, g, hj⟩
    · by_cases h64 : 64 ≤ G.length
      · exact ⟨_, _, .full hf (by omega) hno h64⟩
      · exact ⟨_, _, .add hf (by omega) hno (by omega)⟩
    · exact ⟨_, _, .join i g hf (by omega) hj⟩
  · exact ⟨_, _, .bad hf⟩
section
variable {w : World} {b base : Nat} {v : Value} {L : List El}
set_option maxRecDepth 100000 in
set_option maxHeartbeats 2000000 in
theorem Types_any (w : World) (h : Oq w b base v L) (hl : L.length ≤ 64) : Calls Tryd.prog 14 #[.pointer (some ⟨b, 0, none⟩)] w fun x w' => ∃ A c, x = .returned (.slice A L.length c) ∧ Ow encZ 1 w' w.heap.size 3 (.slice A L.length c) (L.map fun y => y.f.t) ∧ Only Nil w w' := by
  have hLn := Lib.hid (Len_any w h)
  have hmk := hmake0 L.length (by omega)
  have hmo := Lib.hid (made_own0 L.length (by omega) w)
  obtain ⟨m, hm⟩ : ∃ m, m = L.length := ⟨_, rfl⟩
  have HM := Lib.hid hm
  rcases Nat.eq_zero_or_pos L.length with e0 | hpos
  · have eL : L = [] := List.eq_nil_of_length_eq_zero e0
    subst eL
    obtain ⟨qA, qcap, rfl, -, -⟩ := h.own.form
    have c0 := h.cell
    have zb := h.blk.lt
    simp only [List.length_nil] at c0 hLn hmo ⊢
    have hmk0 : ∀ w, (Instr.makeSlice 43 (.int .i64 0) (.int .i64 0)).run Tryd.prog w = .ok (.slice (some ⟨w.heap.size, 0, none⟩) 0 0) (w.alloc (.cells (madeCells #[.int .i64 0] 0) 3)) := fun w => hmake0 0 (by omega) w
    clear h hm HM e0 hl hmk
    go_enter Tryd.func14, Tryd.ntmps14
    go_wp2_with (first
      | (go_at_call 15; (with_reducible refine (hLn.out).mono ?_); rintro e w1 ⟨rfl, rfl⟩)
      )
    go_loopw [3, 17] (fun vv ii wr => vv = .slice (some ⟨w.heap.size, 0, none⟩) 0 0 ∧ ii = .int .i64 0 ∧ wr = w.alloc (.cells (madeCells #[.int .i64 0] 0) 3)) (fun _ _ _ => 0)
    case atStart => exact ⟨rfl, rfl, rfl⟩
    case round =>
      obtain ⟨rfl, rfl, rfl⟩ := hrel
      go_wp2
      go_ret
      exact ⟨_, _, rfl, hmo.out, (Only.refl _ _).alloc _⟩
  · obtain ⟨g6, o6, qcap, rfl, hc, hcm⟩ := h.some_ hpos
    have HQ := Lib.hid (fun W (ho : Only Nil w W) => h.kept ho)
    have c0 := h.cell
    have zb := h.blk.lt
    rw [← hm] at c0 hLn hmk hmo hpos ⊢ HQ
    have hm64 : m ≤ 64 := by omega
    clear h hm hl hc
    go_enter Tryd.func14, Tryd.ntmps14
    go_wp2_with (first
      | (go_at_call 15; (with_reducible refine (hLn.out).mono ?_); rintro e w1 ⟨rfl, rfl⟩)
      )
    go_loopw [3, 17] (fun vv ii wr => ∃ (j : Nat) (A : Option Addr) (c : Nat), j ≤ m ∧ ii = .int .i64 j ∧ vv = .slice A j c ∧ Only Nil w wr ∧ Ow encZ 1 wr w.heap.size 3 (.slice A j c) ((L.take j).map fun y => y.f.t)) (fun _ ii _ => m - (intOf ii).toNat)
    case atStart => exact ⟨0, _, _, Nat.zero_le _, rfl, rfl, (Only.refl _ _).alloc _, hmo.out⟩
    case round =>
      obtain ⟨j, A, c, hj, rfl, rfl, ho, hO⟩ := hrel
      by_cases hlt : j < m
      · have hlt' : (j : Int) < m := by omega
        obtain ⟨x, hx⟩ : ∃ x, L[j]? = some x := ⟨_, List.getElem?_eq_getElem (by rw [← HM.out]; exact hlt)⟩
        obtain ⟨p0, p1, p2, p3, p4, p5, p6, p7, p8, p9, p10, p11⟩ := (HQ.out wr ho).el hx
        have z6 := (HQ.out wr ho).rowLt
        have hT : Hid ((L.take (j + 1)).map (fun y => y.f.t) = (L.take j).map (fun y => y.f.t) ++ [x.f.t]) := Lib.hid (by rw [List.take_add_one, hx]; simp)
        have hLk : Hid (((L.take j).map fun y => y.f.t).length = j) := Lib.hid (by rw [List.length_map, List.length_take]; have := HM.out; omega)
        have hLk2 : Hid (((L.take j).map fun y => y.f.t).length + [x.f.t].length = j + 1) := Lib.hid (by rw [hLk.out]; rfl)
        have ho0 := ho.alloc (.cells (frC x.f x.p) 31)
        have ho1 := ho0.alloc (.cells #[.int .i64 x.f.t] 3)
        have hO1 := (hO.alloc (.cells (frC x.f x.p) 31)).alloc (.cells #[.int .i64 x.f.t] 3)
        have hN : Blk ((wr.alloc (.cells (frC x.f x.p) 31)).alloc (.cells #[.int .i64 x.f.t] 3)) (wr.heap.size + 1) 3 #[.int .i64 x.f.t] := by
          have := Blk.new (wr.alloc (.cells (frC x.f x.p) 31)) 3 #[.int .i64 x.f.t]
          simpa using this
        have t1 := Src.one (P := Tryd.prog) (enc := encZ) (tx := 43) Tryd.underlying43 x.f.t 1 rfl hN rfl (encZ_one _)
        have HO0 := Lib.hid ho
        clear hN hx ho0
        go_wp2_with (first
          | (at_builtin
             refine wpList_app2 rfl (.tmp 21) (.tmp 24) _ _ rfl w.heap.size 3 Tryd.underlying43 int_info rfl _ _ rfl hO1 _ [x.f.t] rfl t1 (by rw [hLk2.out]; omega) (by decide) ho1.size (j + 1) hLk2.out _ hT.out.symm ?_
             intro A6 c6 w6 hown6 ho6 hg6
             have ho6' := ho1.own_nil hO1 ho6)
          )
        go_roundw
        case rel => exact ⟨j + 1, A6, c6, by omega, by go_num, rfl, ho6', hown6⟩
        case measure => simp [intOf]; omega
      · obtain rfl : j = m := by omega
        have hT : Hid ((L.take j).map (fun y => y.f.t) = L.map (fun y => y.f.t)) := Lib.hid (by rw [List.take_of_length_le (by have := HM.out; omega)])
        rw [hT.out] at hO
        go_wp2
        go_ret
        exact ⟨A, c, rfl, hO, ho⟩
end
end Go.Proofs.YtgiplefnggnpcaaDoor
