/- Push, the program's and the document's, one call of both: the state of the two, with the call's own box. -/
import Derived.Test.YtgiplefnggnpcaaDoorPushG
namespace Go.Proofs.YtgiplefnggnpcaaDoor
open Go.RowKit Nd

theorem Only.cellAt {S : Nat → Prop} {w w' : World} (h : Only S w w') {g i : Nat} (hg : g < w.heap.size) (hs : ¬ S g) : w'.cell? ⟨g, i, none⟩ = w.cell? ⟨g, i, none⟩ := by
  have e := h.block g hg hs
  unfold World.cell?
  rw [e]
theorem Sq.far {α : Type} {enc : α → List Value} {sz : Nat} {w w' : World} {g o : Nat} {l : List α} {S : Nat → Prop} (h : Sq enc sz w w.heap.size (some ⟨g, o, none⟩) l) (ho : Only S w w') (hs : ¬ S g) : Sq enc sz w' w'.heap.size (some ⟨g, o, none⟩) l := fun hl => by
  obtain ⟨b, off, e, hb, hc⟩ := h hl
  injection e with e
  injection e with e1 e2
  subst e1 e2
  exact ⟨g, o, rfl, Nat.lt_of_lt_of_le hb ho.size, fun i x hx j hj => (ho.cellAt hb hs).trans (hc i x hx j hj)⟩
theorem pm_of {w : World} {base : Nat} {x : El} (h : Ow encPm 2 w base 49 x.p x.f.P) : PmIs w x.p x.f.P :=
  ⟨x.A, x.cap, rfl, h.len.2.1, h.len.2.2, h.sqn (fun _ _ => rfl)⟩
theorem Pushes.same {G G' : List Frm} {f : Frm} {r : Int} (h : Pushes G f G' r) (hr : r ≠ 0) : G' = G := by
  cases h with
  | bad _ => rfl
  | kind _ _ => rfl
  | join _ _ _ _ _ => exact absurd rfl hr
  | full _ _ _ _ => rfl
  | add _ _ _ _ => exact absurd rfl hr
/-- the queue, the document's list, and a box that is apart from both -/
def St4 (w : World) (b gb : Nat) (ac : Ac) (Ax : Option Addr) (nx cx : Nat) (wr : World) : Prop := ∃ (v : Value) (L Lx : List El), Oq wr b w.heap.size v L ∧ L.length ≤ 64 ∧ Lx.length = nx ∧ nx ≤ cx ∧ cx ≤ maxLen ∧ Sq encF 12 wr wr.heap.size Ax Lx ∧ Lx.map El.f = L.map El.f ∧ (∀ y ∈ Lx, PmIs w y.p y.f.P) ∧
  (∀ g o, Ax = some ⟨g, o, none⟩ → 0 < nx → ¬ Fp b v g) ∧ Below w.heap.size w wr ∧ ¬ Fp b v gb ∧ Blk wr gb 33 (acC ac)
theorem pushes4 {w wr : World} {b gb : Nat} {ac : Ac} {Ax : Option Addr} {nx cx : Nat} (f : Frm) (A : Option Addr) (cap : Nat) (hP : PmIs w (.slice A f.P.length cap) f.P) (hT : Nds w) (h : St4 w b gb ac Ax nx cx wr) :
    ∃ r : Int, ∀ W, Only Nil wr W → Calls Tryd.prog 12 #[.slice Ax nx cx, frmV f (.slice A f.P.length cap)] W (fun e w' => ∃ A' n' c', e = .returned (.tuple #[.slice A' n' c', .int .i64 r]) ∧ Only Nil W w' ∧
      ∀ W2, Only Nil w' W2 → Calls Tryd.prog 13 #[.pointer (some ⟨b, 0, none⟩), frmV f (.slice A f.P.length cap)] W2 (fun e2 w2 => e2 = .returned (.int .i64 r) ∧ St4 w b gb ac A' n' c' w2)) := by
  obtain ⟨v, L, Lx, hQ, hl, hnx, hncx, hcx, hSx, hmap, hps, hap, hB, hgb, hbk⟩ := h
  obtain ⟨G', r, hp⟩ := pushes_some (L.map El.f) f
  subst hnx
  have hlx : Lx.length ≤ 64 := by
    have := congrArg List.length hmap
    rw [List.length_map, List.length_map] at this
    omega
  have hrt : ∀ y ∈ Lx, rightP y.f := fun y hy => by
    have : y.f ∈ L.map El.f := by rw [← hmap]; exact List.mem_map.2 ⟨y, hy, rfl⟩
    obtain ⟨z, hz, e⟩ := List.mem_map.1 this
    rw [← e]
    exact hQ.rt z hz
  have hlt := hT.lt
  refine ⟨r, fun W hoW => (RPushG f A cap W (ok := fun y => PmIs w y.p y.f.P) (hSx.go hoW) hncx hcx hps hrt ((hP.below hB).go hoW) hlx hP (fun g => PmIs.nil _) (hmap ▸ hp)).mono ?_⟩
  rintro e w' ⟨A', c', Lx', rfl, hO, hm', hS', hl', hc', hok', hap'⟩
  have h0 : Only Nil wr w' := hoW.trans hO
  refine ⟨A', Lx'.length, c', rfl, hO, fun W2 ho2 => ?_⟩
  have h2 : Only Nil wr W2 := h0.trans ho2
  have hB2 : Below w.heap.size w W2 := hB.trans (h2.below hB.size (fun _ _ hh => hh))
  refine (PushG f A cap W2 (hP.below hB2) (hT.below hB2 hlt) (hQ.kept h2) hl hp).mono ?_
  rintro e2 w2 ⟨v2, L2, rfl, hQ2, hm2, hO2, hG2⟩
  have hlen2 : L2.length ≤ 64 := by
    have := hp.len (by rw [List.length_map]; exact hl)
    rw [← hm2, List.length_map] at this
    exact this
  have hown : ∀ g, v2.ownBlock = some g → g < wr.heap.size → v.ownBlock = some g := fun g hg hl => by
    rcases hG2 g hg with h1 | h1
    · exact h1
    · have := h2.size
      omega
  have far : ∀ g, ¬ Fp b v g → g < wr.heap.size → ¬ Fp b v2 g := fun g hg hl hh => by
    rcases hh with hh | hh
    · exact hg (.inl hh)
    · exact hg (.inr (hown g hh hl))
  have apart : 0 < Lx'.length → ∃ g o, A' = some ⟨g, o, none⟩ ∧ ¬ Fp b v2 g ∧ ¬ Fp b v g := fun h0l => by
    obtain ⟨g, o, eA, hg, -⟩ := hS' h0l
    refine ⟨g, o, eA, ?_⟩
    rcases hap' g o eA with ⟨hr, e⟩ | ⟨-, hge⟩
    · have eG := (hmap ▸ hp : Pushes (Lx.map El.f) f G' r).same hr
      have h0x : 0 < Lx.length := by
        have := congrArg List.length (hm'.trans eG)
        rw [List.length_map, List.length_map] at this
        omega
      have hn := hap g o (e ▸ eA) h0x
      obtain ⟨g1, o1, e1, hg1, -⟩ := hSx h0x
      rw [← e, eA] at e1
      injection e1 with e1
      injection e1 with e1 _
      subst e1
      exact ⟨far g hn hg1, hn⟩
    · have hz : wr.heap.size ≤ g := Nat.le_trans hoW.size hge
      have hgW : g < W2.heap.size := Nat.lt_of_lt_of_le hg ho2.size
      have hv : ¬ Fp b v g := fun hh => by
        rcases hh with hh | hh
        · have := hQ.blk.lt
          omega
        · have := (hQ.own.lt hh).2
          omega
      refine ⟨fun hh => ?_, hv⟩
      rcases hh with hh | hh
      · exact hv (.inl hh)
      · rcases hG2 g hh with h1 | h1
        · exact hv (.inr h1)
        · omega
  refine ⟨rfl, v2, L2, Lx', hQ2, hlen2, rfl, hl', hc', fun h0l => ?_, by rw [hm', hm2], hok', fun g o eA h0l => ?_, hB2.trans ((hQ.kept h2).below hO2), far gb hgb hbk.lt, (hbk.kept h2 (fun hh => hh)).kept hO2 hgb⟩
  · obtain ⟨g, o, eA, -, hn⟩ := apart h0l
    subst eA
    exact ((hS'.go ho2).far hO2 hn) h0l
  · obtain ⟨g', o', eA', hn, -⟩ := apart h0l
    rw [eA'] at eA
    injection eA with eA
    injection eA with eA _
    subst eA
    exact hn
theorem St4.of {w wr W : World} {b gb : Nat} {ac : Ac} {Ax : Option Addr} {nx cx : Nat} {v : Value} {L Lx : List El} (hQ : Oq wr b w.heap.size v L) (hl : L.length ≤ 64) (hnx : Lx.length = nx) (hncx : nx ≤ cx) (hcx : cx ≤ maxLen) (hSx : Sq encF 12 wr wr.heap.size Ax Lx) (hmap : Lx.map El.f = L.map El.f)
    (hps : ∀ y ∈ Lx, PmIs w y.p y.f.P) (hap : ∀ g o, Ax = some ⟨g, o, none⟩ → 0 < nx → ¬ Fp b v g) (hB : Below w.heap.size w wr) (ho : Only Nil wr W) (hgb : wr.heap.size ≤ gb) (hbk : Blk W gb 33 (acC ac)) : St4 w b gb ac Ax nx cx W :=
  ⟨v, L, Lx, hQ.kept ho, hl, hnx, hncx, hcx, hSx.go ho, hmap, hps, hap, hB.trans (ho.below hB.size (fun _ _ hh => hh)), (fun hh => by
    rcases hh with hh | hh
    · have := hQ.blk.lt
      omega
    · have := (hQ.own.lt hh).2
      omega), hbk⟩
end Go.Proofs.YtgiplefnggnpcaaDoor
