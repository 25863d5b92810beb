/-
  What the proof of EventForms stands on, part 40.
-/
import Derived.Deep.RegionHeld3
import Derived.OrdersHeld
import Derived.Test.YtbiplmbcdhjiaaaGreatDoorT01
set_option linter.unusedSimpArgs false
set_option linter.unusedVariables false
set_option maxHeartbeats 16000000
namespace Go.Proofs.YtbiplmbcdhjiaaaGreatDoor
open Go.Lib (hid)
section
open Go
namespace Flow
section
variable {P : Program} {ops : Array Oper} {Q : Exit → Act → World → Prop} {md : Region.Mode} {S : World → Prop}
def layAct (a : Act) : List Tmp → (Tmp → Value) → Act
 | [], _ => a
 | d :: D, us => (layAct a D us).put (some d) (us d)
def upd (us : Tmp → Value) (d : Tmp) (v : Value) : Tmp → Value := fun t => if t = d then v else us t
theorem ydc (us : Tmp → Value) (d : Tmp) (v : Value) : upd us d v d = v := by simp [upd]
theorem ydd {us : Tmp → Value} {d t : Tmp} {v : Value} (h : t ≠ d) : upd us d v t = us t := by simp [upd, h]
theorem put_own (a : Act) (d : Tmp) : a.put (some d) (a.tmps.getD d undef) = a := by
 cases a with
 | mk t ds =>
   show Act.mk (t.setIfInBounds d (t.getD d undef)) ds = _
   congr 1
   apply Array.ext_getElem?
   intro i
   by_cases hi : d = i
   · subst hi
     rcases Nat.lt_or_ge d t.size with h | h
     · simp [h, Array.getD_eq_getD_getElem?]
     · rw [Array.getElem?_eq_none h, Array.getElem?_eq_none (by simpa using h)]
   · simp [Array.getElem?_setIfInBounds_ne hi]
theorem yde (a : Act) : ∀ D : List Tmp, layAct a D (fun t => a.tmps.getD t undef) = a
 | [] => rfl
 | d :: D => by
   show (layAct a D _).put (some d) _ = a
   rw [yde a D]
   exact put_own a d
theorem ydf (a : Act) {us us' : Tmp → Value} : ∀ D : List Tmp, (∀ d ∈ D, us d = us' d) → layAct a D us = layAct a D us'
 | [], _ => rfl
 | d :: D, h => by
   show (layAct a D us).put (some d) (us d) = (layAct a D us').put (some d) (us' d)
   rw [ydf a D (fun x hx => h x (List.mem_cons_of_mem _ hx)), h d (List.mem_cons_self ..)]
theorem put_put (a : Act) (d : Tmp) (u v : Value) : (a.put (some d) u).put (some d) v = a.put (some d) v := by
 simp [Act.put, Array.setIfInBounds_setIfInBounds]
theorem ydg (a : Act) {us : Tmp → Value} {d : Tmp} {v : Value} : ∀ D : List Tmp, D.Nodup → d ∈ D → (layAct a D us).put (some d) v = layAct a D (upd us d v)
 | [], _, h => by cases h
 | e :: D, hn, hd => by
   have hn1 := (List.nodup_cons.1 hn).1
   have hn2 := (List.nodup_cons.1 hn).2
   show ((layAct a D us).put (some e) (us e)).put (some d) v = (layAct a D (upd us d v)).put (some e) (upd us d v e)
   by_cases hde : d = e
   · subst hde
     rw [put_put, ydc, ydf a (us := upd us d v) (us' := us) D (fun x hx => ydd (fun h => hn1 (h ▸ hx)))]
   · have hd2 : d ∈ D := by
      rcases List.mem_cons.1 hd with h | h
      · exact absurd h hde
      · exact h
     rw [ydd (fun h => hde h.symm), ← ydg a D hn2 hd2, Act.put_comm _ _ _ (fun x hx h => hde (by cases hx; cases h; rfl))]
def dstOf (ops : Array Oper) (i : Nat) : Option Tmp := (ops[i]?).bind (·.dst)
def waits (md : Region.Mode) (ops : Array Oper) (i j : Nat) : Bool := ((ops[i]?).map fun o => o.after.any fun e => e.on == j && Region.binds md e).getD false
def ahead (md : Region.Mode) (ops : Array Oper) : Bool := (List.range ops.size).all fun i => ((ops[i]?).map fun o => o.after.all fun e => !Region.binds md e || decide (e.on < i)).getD true
def apart (ops : Array Oper) (listed : Array Bool) (D : List Tmp) : Bool := (List.range ops.size).all fun i => listed.getD i true || match dstOf ops i with
 | none => true
 | some d => D.contains d && (List.range ops.size).all fun j => listed.getD j true || (j == i) || (dstOf ops j != some d)
def nodupB : List Tmp → Bool
 | [] => true
 | d :: D => !D.contains d && nodupB D
theorem ydh : ∀ {D : List Tmp}, nodupB D = true → D.Nodup
 | [], _ => List.nodup_nil
 | d :: D, h => by
   simp only [nodupB, Bool.and_eq_true, Bool.not_eq_true'] at h
   exact List.nodup_cons.2 ⟨by simpa using h.1, ydh h.2⟩
structure Inv (ops : Array Oper) (l0 : Array Bool) (D : List Tmp) (F : Nat → Value → World → Prop) (G : World → Prop) (a0 : Act) (l : Array Bool) (a : Act) (w : World) : Prop where
 size : l.size = ops.size
 more : ∀ j, l0.getD j true = true → l.getD j true = true
 g : G w
 st : ∃ us, a = layAct a0 D us ∧ ∀ i d, dstOf ops i = some d → l0.getD i true = false → l.getD i true = true → F i (us d) w
def Step (P : Program) (md : Region.Mode) (ops : Array Oper) (Q : Exit → Act → World → Prop) (l0 : Array Bool) (D : List Tmp) (F : Nat → Value → World → Prop) (G : World → Prop) (a0 : Act) (i : Nat) : Prop :=
 ∀ (us : Tmp → Value) (w : World) (K : Act → World → Prop), G w →
  (∀ j d, waits md ops i j = true → l0.getD j true = false → dstOf ops j = some d → F j (us d) w) →
  Shut (∀ v w', G w' → (∀ j u, F j u w → F j u w') → F i v w' → K ((layAct a0 D us).put (dstOf ops i) v) w') →
  ∀ o, ops[i]? = some o → if Region.wanted o (yielded ops (layAct a0 D us).tmps) = true then Oper.wp P o (layAct a0 D us) w K Q else K ((layAct a0 D us).put (dstOf ops i) undef) w
theorem ydi {l : Array Bool} {i : Nat} (h : l.getD i true = false) : ∃ hi : i < l.size, l[i] = false := by
 rcases Nat.lt_or_ge i l.size with h' | h'
 · exact ⟨h', by simpa [h'] using h⟩
 · simp [Array.getElem?_eq_none h'] at h
theorem ydj {l : Array Bool} {i : Nat} (h : l.getD i true = false) : 0 < l.toList.count false := by
 obtain ⟨hi, h⟩ := ydi h
 exact List.count_pos_iff.2 (h ▸ by simp)
theorem count_set {l : Array Bool} {i : Nat} (h : l.getD i true = false) : (l.setIfInBounds i true).toList.count false + 1 = l.toList.count false := by
 obtain ⟨hi, h'⟩ := ydi h
 have hp := ydj h
 have : l.toList[i]'(by simpa using hi) = false := by simpa using h'
 rw [Array.toList_setIfInBounds, List.count_set (by simpa using hi), this]
 show l.toList.count false - 1 + 0 + 1 = l.toList.count false
 omega
theorem flow {l0 : Array Bool} {D : List Tmp} {F : Nat → Value → World → Prop} {G : World → Prop} {a0 : Act} (hA : ahead md ops = true) (hN : nodupB D = true) (hP : apart ops l0 D = true) (hS : ∀ w, G w → S w)
 (hstep : ∀ i, l0.getD i true = false → Step P md ops Q l0 D F G a0 i)
 (hdone : ∀ us w, G w → (∀ i d, dstOf ops i = some d → l0.getD i true = false → F i (us d) w) → Q .normal (layAct a0 D us) w) :
 ∀ (fuel : Nat) (l : Array Bool) (a : Act) (w : World), l.toList.count false ≤ fuel → Inv ops l0 D F G a0 l a w → wpAnyH P md ops Q S fuel l a w := by
 have hnd := ydh hN
 have hall : ∀ (l : Array Bool) (a : Act) (w : World), Inv ops l0 D F G a0 l a w → (∀ i, i < ops.size → l.getD i true = true) → Q .normal a w := by
  intro l a w hI hl
  obtain ⟨us, rfl, hf⟩ := hI.st
  refine hdone us w hI.g (fun i d hd h0 => hf i d hd h0 (hl i ?_))
  rcases Nat.lt_or_ge i ops.size with h | h
  · exact h
  · simp [dstOf, Array.getElem?_eq_none h] at hd
 intro fuel
 induction fuel with
 | zero =>
   intro l a w hc hI
   have hno : ∀ i, l.getD i true = true := fun i => by
    cases h : l.getD i true
    · have := ydj h; omega
    · rfl
   refine ⟨?_, hall l a w hI (fun i _ => hno i)⟩
   apply List.eq_nil_iff_forall_not_mem.2
   intro i hi
   have := (mem_ready.1 hi).1
   rw [hno i] at this
   cases this
 | succ fuel ih =>
   intro l a w hc hI
   refine ⟨fun hr => hall l a w hI ?_, fun i hi => ?_⟩
   · intro i
     induction i using Nat.strongRecOn with
     | ind i ihi =>
       intro hlt
       cases h : l.getD i true with
       | true => rfl
       | false =>
         exfalso
         have : i ∈ Region.ready md ops l := by
          refine mem_ready.2 ⟨h, ops[i], Array.getElem?_eq_getElem hlt, fun e he hb => ?_⟩
          have hh := List.all_eq_true.1 hA i (List.mem_range.2 hlt)
          rw [Array.getElem?_eq_getElem hlt] at hh
          have hei : e.on < i := by
           have hh' : (ops[i].after.all fun e => !Region.binds md e || decide (e.on < i)) = true := by simpa only [Option.map_some, Option.getD_some] using hh
           obtain ⟨k, hk, rfl⟩ := Array.getElem_of_mem he
           have h3 := Array.all_eq_true.1 hh' k hk
           rw [hb, Bool.not_true, Bool.false_or] at h3
           exact of_decide_eq_true h3
          have h1 := ihi e.on hei (by omega)
          have hsz : e.on < l.size := by rw [hI.size]; omega
          simpa [hsz] using h1
         rw [hr] at this
         cases this
   · obtain ⟨hun, o, ho, hedge⟩ := mem_ready.1 hi
     have h0 : l0.getD i true = false := by
      cases h : l0.getD i true with
      | false => rfl
      | true => rw [hI.more i h] at hun; cases hun
     obtain ⟨us, rfl, hf⟩ := hI.st
     have hdo : dstOf ops i = o.dst := by simp [dstOf, ho]
     refine wpOp_step ho (fun K' hK => ?_)
     have hpre : ∀ j d, waits md ops i j = true → l0.getD j true = false → dstOf ops j = some d → F j (us d) w := by
      intro j d hw hj0 hd
      refine hf j d hd hj0 ?_
      simp only [waits, ho, Option.map_some, Option.getD_some] at hw
      obtain ⟨e, hk, hh⟩ := Array.any_eq_true.1 hw
      rw [Bool.and_eq_true, beq_iff_eq] at hh
      have h1 := hedge _ (Array.getElem_mem hk) hh.2
      rw [hh.1] at h1
      rcases Nat.lt_or_ge j l.size with h' | h'
      · simpa [h'] using h1
      · simp [Array.getElem?_eq_none h'] at h1
     have hnext : ∀ v w', G w' → (∀ j u, F j u w → F j u w') → (o.dst = none ∨ F i v w') → K' ((layAct a0 D us).put o.dst v) w' := by
      intro v w' hG hM hF
      have hin : Inv ops l0 D F G a0 (l.setIfInBounds i true) ((layAct a0 D us).put o.dst v) w' := by
       refine ⟨by simpa using hI.size, fun j hj => ?_, hG, ?_⟩
       · by_cases hij : i = j
         · subst hij; rw [h0] at hj; cases hj
         · rw [getD_set_ne true hij]; exact hI.more j hj
       · cases hd : o.dst with
         | none =>
           refine ⟨us, rfl, fun j d hj hj0 hjl => ?_⟩
           by_cases hij : i = j
           · subst hij; rw [hdo, hd] at hj; cases hj
           · rw [getD_set_ne true hij] at hjl; exact hM j _ (hf j d hj hj0 hjl)
         | some d =>
           have hp := List.all_eq_true.1 hP i (List.mem_range.2 (Array.getElem?_eq_some_iff.1 ho).1)
           rw [h0, Bool.false_or, hdo, hd] at hp
           simp only [Bool.and_eq_true] at hp
           refine ⟨upd us d v, ydg a0 D hnd (by simpa using hp.1), fun j x hj hj0 hjl => ?_⟩
           by_cases hij : i = j
           · subst hij
             rw [hdo, hd] at hj
             cases hj
             rw [ydc]
             rcases hF with h | h
             · rw [hd] at h; cases h
             · exact h
           · rw [getD_set_ne true hij] at hjl
             have hx : x ≠ d := by
              rintro rfl
              have hjlt : j < ops.size := by
               rcases Nat.lt_or_ge j ops.size with h | h
               · exact h
               · simp [dstOf, Array.getElem?_eq_none h] at hj
              have := List.all_eq_true.1 hp.2 j (List.mem_range.2 hjlt)
              rw [hj0, hj] at this
              simp at this
              exact hij this.symm
             rw [ydd hx]
             exact hM j _ (hf j x hj hj0 hjl)
      exact hK _ _ ⟨hS _ hG, ih _ _ _ (by have := count_set hun; omega) hin⟩
     have h := hstep i h0 us w K' hI.g hpre (fun v w' hG hM hF => by rw [hdo]; exact hnext v w' hG hM (Or.inr hF)) o ho
     rw [hdo] at h
     exact h
theorem ydk {i : Nat} {o : Oper} {os : List Oper} (hos : ops.toList.drop i = o :: os) : ops[i]? = some o := by rw [← Array.getElem?_toList, ← List.head?_drop, hos]; rfl
theorem take {i : Nat} {oi : Oper} {os : List Oper} {v : Value} {fuel : Nat} {listed : Array Bool} {a : Act} {w : World} (hos : ops.toList.drop i = oi :: os)
 (hs : Region.noSelect ops = true) (hf : Region.free md ops listed i = true) (hr : (Region.ready md ops listed).contains i = true)
 (hQ : ∀ c a w, Q (.panic c) (a.put oi.dst v) w → Q (.panic c) a w) (hw : Region.wanted oi (yielded ops a.tmps) = true) (hy : ∀ w, S w → (execOp a.eval oi).run P w = .ok (.value v) w) (hS : S w)
 (h : wpAnyH P md ops Q S fuel (listed.setIfInBounds i true) (a.put oi.dst v) w) : wpAnyH P md ops Q S (fuel + 1) listed a w :=
 wpAnyH_take (ydk hos) hs hf hr hQ (Or.inl ⟨hw, hy⟩) hS h
def unl (ops : Array Oper) (l : Array Bool) : List Nat := (List.range ops.size).filter fun i => !l.getD i true
theorem mem_unl {l : Array Bool} {i : Nat} (hsz : l.size = ops.size) (h : l.getD i true = false) : i ∈ unl ops l := by
 obtain ⟨hi, -⟩ := ydi h
 exact List.mem_filter.2 ⟨List.mem_range.2 (by omega), by simp [h]⟩
def Steps (P : Program) (md : Region.Mode) (ops : Array Oper) (Q : Exit → Act → World → Prop) (l0 : Array Bool) (D : List Tmp) (F : Nat → Value → World → Prop) (G : World → Prop) (a0 : Act) (rs : List Nat) : Prop := ∀ i ∈ rs, Step P md ops Q l0 D F G a0 i
variable {l0 : Array Bool} {D : List Tmp} {F : Nat → Value → World → Prop} {G : World → Prop} {a0 : Act}
theorem Steps.nil : Steps P md ops Q l0 D F G a0 [] := fun _ h => by cases h
theorem Steps.cons {i : Nat} {rs : List Nat} {o : Oper} {os : List Oper} (hos : ops.toList.drop i = o :: os)
 (h : ∀ (us : Tmp → Value) (w : World) (K : Act → World → Prop), G w →
   (∀ j d, waits md ops i j = true → l0.getD j true = false → dstOf ops j = some d → F j (us d) w) →
   Shut (∀ v w', G w' → (∀ j u, F j u w → F j u w') → F i v w' → K ((layAct a0 D us).put o.dst v) w') →
   if Region.wanted o (yielded ops (layAct a0 D us).tmps) = true then Oper.wp P o (layAct a0 D us) w K Q else K ((layAct a0 D us).put o.dst undef) w)
 (hs : Steps P md ops Q l0 D F G a0 rs) : Steps P md ops Q l0 D F G a0 (i :: rs) := fun j hj => by
 have ho := ydk hos
 rcases List.mem_cons.1 hj with rfl | hj
 · intro us w K hG hpre hK o' ho'
   have hoo : o = o' := by rw [ho] at ho'; exact Option.some.inj ho'
   subst hoo
   have hdo : dstOf ops j = o.dst := by simp [dstOf, ho]
   rw [hdo] at hK ⊢
   exact h us w K hG hpre hK
 · exact hs j hj
theorem Steps.plain {i : Nat} {rs : List Nat} {o : Oper} {os : List Oper} (hos : ops.toList.drop i = o :: os) (hg : o.guard = none)
 (h : ∀ (us : Tmp → Value) (w : World) (K : Act → World → Prop), G w →
   (∀ j d, waits md ops i j = true → l0.getD j true = false → dstOf ops j = some d → F j (us d) w) →
   Shut (∀ v w', G w' → (∀ j u, F j u w → F j u w') → F i v w' → K ((layAct a0 D us).put o.dst v) w') → Oper.wp P o (layAct a0 D us) w K Q)
 (hs : Steps P md ops Q l0 D F G a0 rs) : Steps P md ops Q l0 D F G a0 (i :: rs) :=
 Steps.cons hos (fun us w K hG hpre hK => by rw [if_pos (by simp [Region.wanted, hg])]; exact h us w K hG hpre hK) hs
theorem ydl {rs : List Nat} {fuel : Nat} {w0 : World} (hsz : l0.size = ops.size) (hA : ahead md ops = true) (hN : nodupB D = true) (hP : apart ops l0 D = true) (hc : Nat.ble (l0.toList.count false) fuel = true) (hrs : unl ops l0 = rs)
 (hS : ∀ w, G w → S w) (hG : G w0) (hsteps : Steps P md ops Q l0 D F G a0 rs)
 (hdone : ∀ us w, G w → (∀ i d, i ∈ rs → dstOf ops i = some d → F i (us d) w) → Q .normal (layAct a0 D us) w) : wpAnyH P md ops Q S fuel l0 a0 w0 :=
 flow hA hN hP hS (fun i hi => hsteps i (hrs ▸ mem_unl hsz hi))
  (fun us w hg hf => hdone us w hg (fun i d hi hd => hf i d hd (by
    have := (List.mem_filter.1 (hrs ▸ hi)).2
    simpa using this))) fuel l0 a0 w0 (Nat.le_of_ble_eq_true hc)
  ⟨hsz, fun _ h => h, hG, _, (yde a0 D).symm, fun i d _ h0 h1 => by rw [h0] at h1; cases h1⟩
end
end Flow
end
end Go.Proofs.YtbiplmbcdhjiaaaGreatDoor
