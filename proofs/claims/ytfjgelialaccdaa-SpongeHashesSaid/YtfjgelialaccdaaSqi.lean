import Derived.Test.YtfjgelialaccdaaProg
import Derived.Test.YtfjgelialaccdaaSqh
import Derived.Deep.DeepAppendRoom
/- Sponge: Write. -/
namespace Go.Proofs.Ytfjgelialaccdaa
open Go.RowKit Go.Shelf
set_option maxRecDepth 100000
attribute [local go_sem] Oper.semAt_some

theorem region_N {F : Fence} {n : Nat} {P : Program} {ops : Array Oper} {Q : Exit → Act → World → Prop} {id : Nat} {a : Act} {w : World} (S : World → Prop) (hm : P.follows .mixedOrders = true)
    (h : anyS F n P .any ops (nrm Q) S ops.size (Array.replicate ops.size false) a w.drew) : (Code.region id ops true).wpIn F n P Q a w :=
  wpIn_mono (region_S (Q := nrm Q) S hm h) fun e _ _ q => by cases e <;> first | exact q | exact q.elim
theorem Wo.put {w : World} {b R : Nat} {mk : Int} {F : Nat → Nat} {a : Nat} {r : Bool} (h : Wo w b R mk F a r) {l : Nat} (hl : b ≠ l) (o : Obj) : Wo (w.putObj l o) b R mk F a r := (World.putObj_heap_other hl).trans h
theorem only_put {b l : Nat} {w A : World} (h : Only b w A) (hl : w.heap.size ≤ l) (o : Obj) : Only b w (A.putObj l o) :=
  ⟨h.os, h.tape, h.output, by rw [World.putObj_size]; exact h.size, fun j hj hb => (World.putObj_heap_other (by omega)).trans (h.block j hj hb)⟩
/-- Between two rounds: t bytes have been entered. -/
structure Fw (w : World) (b q : Nat) (mk : Int) (zs ps : List Int) (rec : Loop) (t : Nat) (A : World) : Prop where
  loop : A.heap[w.heap.size + 5]? = some (.loop rec)
  dfr : A.heap[w.heap.size + 4]? = some (.deferred (some []))
  box : A.heap[w.heap.size]? = some (.cells #[.pointer (some ⟨b, 0, none⟩)] 53 (0, 0))
  obj : Wo A b (8 * q) mk (wkF q (zs ++ ps.take t)) ((zs ++ ps.take t).length % (8 * q)) false
  low : Only b w A
section
variable {w A B : World} {b q t s : Nat} {mk : Int} {zs ps : List Int} {rec : Loop}
theorem Fw.drew (h : Fw w b q mk zs ps rec t A) : Fw w b q mk zs ps rec t A.drew := ⟨h.loop, h.dfr, h.box, h.obj.drew, h.low.drew⟩
/-- A piece fits its block. -/
theorem pc_fit {f R L t s : Nat} (hf : f < R) (ht : t = 0 ∨ (f + t) % R = 0) (hs : s = min (rmN R f t) (L - t)) : (f + t) % R + s ≤ R := by
  unfold rmN at hs
  by_cases h0 : t = 0
  · subst h0
    rw [if_pos rfl] at hs
    rw [Nat.add_zero, Nat.mod_eq_of_lt hf]; omega
  · rw [if_neg h0] at hs
    rcases ht with h | h
    · exact absurd h h0
    · rw [h]; omega
theorem Fw.entered (h : Fw w b q mk zs ps rec t A) (hq : 1 ≤ q ∧ q ≤ 24) (hz : ∀ z ∈ zs, 0 ≤ z ∧ z ≤ 255) (hp : ∀ z ∈ ps, 0 ≤ z ∧ z ≤ 255) (hs : ((ps.drop t).take s).length = s) (hfit : (zs ++ ps.take t).length % (8 * q) + s ≤ 8 * q)
    {C D : World} (hb : b < w.heap.size) (hC : C = A.putObj (w.heap.size + 5) (.loop { rec with state := .busy })) (hr : ({ rec with state := .ready, pending := none } : Loop) = rec) {e : Ending}
    (hE : EnP C b q ((zs ++ ps.take t).length % (8 * q)) mk (wkF q (zs ++ ps.take t)) false ((ps.drop t).take s) e D) :
    D.heap[w.heap.size + 5]? = some (.loop { rec with state := .busy }) ∧ Fw w b q mk zs ps rec (t + s) (D.putObj (w.heap.size + 5) (.loop { rec with state := .ready, pending := none })) ∧ Kp (fun j => j = b ∨ j = w.heap.size + 5) A (D.putObj (w.heap.size + 5) (.loop { rec with state := .ready, pending := none })) := by
  obtain ⟨_, ho, h1, h2⟩ := hE
  rw [hs] at h1 h2
  have hl : w.heap.size + 5 < A.heap.size := (Array.getElem?_eq_some_iff.1 h.loop).1
  have hsz : C.heap.size = A.heap.size := by rw [hC, World.putObj_size]
  have hCo : ∀ j, j ≠ w.heap.size + 5 → C.heap[j]? = A.heap[j]? := fun j hj => by rw [hC]; exact World.putObj_heap_other hj
  have hD : ∀ j, j < A.heap.size → j ≠ b → j ≠ w.heap.size + 5 → D.heap[j]? = A.heap[j]? := fun j hj hb hn => (ho.block j (by omega) hb).trans (hCo j hn)
  have hDl : D.heap[w.heap.size + 5]? = some (.loop { rec with state := .busy }) := (ho.block _ (by omega) (by omega)).trans (by rw [hC]; exact World.putObj_heap_same hl)
  have htk : zs ++ ps.take t ++ (ps.drop t).take s = zs ++ ps.take (t + s) := by rw [List.append_assoc, ← List.take_add]
  have hbs : ∀ z ∈ zs ++ ps.take t, 0 ≤ z ∧ z ≤ 255 := fun z h => (List.mem_append.1 h).elim (hz z) (fun h => hp z (List.mem_of_mem_take h))
  have hbp : ∀ z ∈ (ps.drop t).take s, 0 ≤ z ∧ z ≤ 255 := fun z h => hp z (List.mem_of_mem_drop (List.mem_of_mem_take h))
  have hobj : Wo D b (8 * q) mk (wkF q (zs ++ ps.take (t + s))) ((zs ++ ps.take (t + s)).length % (8 * q)) false := by
    by_cases hlt : (zs ++ ps.take t).length % (8 * q) + s < 8 * q
    · have h3 := wk_short (zs := zs ++ ps.take t) (ps := (ps.drop t).take s) hq.1 hbs hbp (by rw [hs]; exact hlt)
      rw [htk, hs] at h3
      exact (h1 hlt).to h3.1 h3.2.symm rfl
    · have he : (zs ++ ps.take t).length % (8 * q) + s = 8 * q := by omega
      have h3 := wk_full (zs := zs ++ ps.take t) (ps := (ps.drop t).take s) hq.1 hbs hbp (by rw [hs]; exact he)
      rw [htk] at h3
      exact (h2 he).to h3.1 h3.2.symm rfl
  have hlow : Only b w D := by
    have : Only b w C := by rw [hC]; exact only_put h.low (by omega) _
    exact this.trans ho
  refine ⟨hDl, ⟨?_, (World.putObj_heap_other (by omega)).trans ((hD _ (by omega) (by omega) (by omega)).trans h.dfr), (World.putObj_heap_other (by omega)).trans ((hD _ (by omega) (by omega) (by omega)).trans h.box), hobj.put (by omega) _, only_put hlow (by omega) _⟩, ?_⟩
  · rw [World.putObj_heap_same (Array.getElem?_eq_some_iff.1 hDl).1, hr]
  · exact ⟨by rw [World.putObj_size]; have := ho.size; omega, fun j hj hS => (World.putObj_heap_other (fun e => hS (.inr e))).trans (hD j hj (fun e => hS (.inl e)) (fun e => hS (.inr e)))⟩
end
set_option maxHeartbeats 3200000 in
theorem write_any (b q : Nat) (mk : Int) (zs ps : List Int) (v : Value) (w : World) (hW : Wo w b (8 * q) mk (wkF q zs) (zs.length % (8 * q)) false) (hq : 1 ≤ q ∧ q ≤ 24) (hz : ∀ z ∈ zs, 0 ≤ z ∧ z ≤ 255)
    (hk : Kept b w v ps) (hc : ∀ a n c, v = .slice a n c → n ≤ c ∧ c ≤ maxLen) (hl : ps.length ≤ 1000000) :
    Calls Try.prog 32 #[.pointer (some ⟨b, 0, none⟩), v] w fun e w' => e = .returned (.int .i64 0) ∧ Wo w' b (8 * q) mk (wkF q (zs ++ ps)) ((zs ++ ps).length % (8 * q)) false ∧ Only b w w' := by
  obtain ⟨f, hf⟩ : ∃ f, zs.length % (8 * q) = f := ⟨_, rfl⟩
  have hfl : f < 8 * q := by rw [← hf]; exact Nat.mod_lt _ (by omega)
  obtain ⟨p, cap, rfl, hpa⟩ : ∃ p cap, v = .slice p ps.length cap ∧ (0 < ps.length → ∃ g off, p = some ⟨g, off, none⟩) := by
    obtain ⟨p, cap, e, _, _, h⟩ := hk.rd
    exact ⟨p, cap, e, fun h0 => by obtain ⟨g, off, e, _⟩ := h h0; exact ⟨g, off, e⟩⟩
  obtain ⟨hc1, hc2⟩ := hc _ _ _ rfl
  have hb := hW.lt
  have W1 : Wo (w.alloc (.cells #[.pointer (some ⟨b, 0, none⟩)] 53)) b (8 * q) mk (wkF q zs) f false := by rw [hf] at hW; exact hW.alloc _
  have HNo := hid (nobodys_any W1 hq)
  have c1 := cell_new0 w (.pointer (some ⟨b, 0, none⟩)) 53
  have c28 := W1.done
  have HB1 : Hid (Below w.heap.size w (w.alloc (.cells #[.pointer (some ⟨b, 0, none⟩)] 53))) := hid ((Below.refl _ _).alloc (Nat.le_refl _) _)
  have hN1 : (w.alloc (.cells #[.pointer (some ⟨b, 0, none⟩)] 53)).heap.size = w.heap.size + 1 := by simp
  have hbx : (w.alloc (.cells #[.pointer (some ⟨b, 0, none⟩)] 53)).heap[w.heap.size]? = some (.cells #[.pointer (some ⟨b, 0, none⟩)] 53 (0, 0)) := heap_alloc_new w _
  refine (callsIn_wide (n := 7)).1 ?_
  refine callsIn_of_wp_marks Try.func32 rfl trivial ?_ rfl
  simp only [Try.ntmps32, List.size_toArray, List.length_cons, List.length_nil, Nat.reduceAdd, Nat.reduceSub, Array.replicate_succ, Array.replicate_zero, List.push_toArray, List.append_toArray, List.nil_append, List.cons_append]
  gi_wp2_with (first
    | (refine ⟨trivial, ?_⟩; gi_at_call 42; refine (callsIn_wide.2 HNo.out).mono ?_; rintro e w1 ⟨rfl, rfl⟩))
  have HS2 : Hid ((w.alloc (.cells #[.pointer (some ⟨b, 0, none⟩)] 53)).drew.heap[w.heap.size]? = some (.cells #[.pointer (some ⟨b, 0, none⟩)] 53 (0, 0)) ∧ Wo (w.alloc (.cells #[.pointer (some ⟨b, 0, none⟩)] 53)).drew b (8 * q) mk (wkF q zs) f false) := hid ⟨hbx, W1.drew⟩
  obtain ⟨F, hF⟩ : ∃ F, wkF q zs = F := ⟨_, rfl⟩
  have HF := hid hF
  obtain ⟨R, hR⟩ : ∃ R, 8 * q = R := ⟨_, rfl⟩
  have HR := hid hR
  rw [hF, hR] at HS2
  have HB2 : Hid (Below w.heap.size w (w.alloc (.cells #[.pointer (some ⟨b, 0, none⟩)] 53)).drew) := hid HB1.out.drew
  have hN2 : (w.alloc (.cells #[.pointer (some ⟨b, 0, none⟩)] 53)).drew.heap.size = w.heap.size + 1 := hN1
  have HQ : Hid ((1 ≤ q ∧ q ≤ 24) ∧ (∀ z ∈ zs, 0 ≤ z ∧ z ≤ 255) ∧ ps.length ≤ 1000000 ∧ ps.length ≤ cap ∧ cap ≤ maxLen ∧ (0 < ps.length → ∃ g off, p = some ⟨g, off, none⟩) ∧ f < R ∧ zs.length % R = f ∧ b < w.heap.size) := hid ⟨hq, hz, hl, hc1, hc2, hpa, by omega, by rw [← hR]; exact hf, hb⟩
  have HK := hid hk
  clear hk hc hl hq hz hc1 hc2 hpa hfl hf hb hW W1 HNo c1 c28 HB1 hN1 hbx hF hR
  refine region_N (fun w' => w'.heap[w.heap.size]? = some (.cells #[.pointer (some ⟨b, 0, none⟩)] 53 (0, 0)) ∧ Wo w' b R mk F f false) (by kernel_rfl) ?_
  generalize (w.alloc (.cells #[.pointer (some ⟨b, 0, none⟩)] 53)).drew = w2 at *
  refine anyS_take (i := 0) (x := .tmp 1) (p := (.slice p ps.length cap)) (v := (.slice p ps.length cap)) rfl (asks_of rfl rfl (fun cs b e => (by cases e)) (fun ρ w => rfl) (fun ρ h w hw => by have h := h; clear hw; simp only [execOp]; go_simp)) rfl rfl (by kernel_rfl) (by kernel_rfl) (by kernel_rfl) (fun _ _ _ h => h) HS2.out ?_
  try simp only [Act.put, lay_out]
  refine anyS_take (i := 1) (x := .tmp 2) (p := .pointer (some ⟨w.heap.size, 0, none⟩)) (v := .pointer (some ⟨b, 0, none⟩)) rfl (asks_of rfl rfl (fun cs b e => (by cases e)) (fun ρ w => rfl) (fun ρ h w hw => by have hc := one_box hw.1; clear hw; simp only [execOp]; go_simp)) rfl rfl (by kernel_rfl) (by kernel_rfl) (by kernel_rfl) (fun _ _ _ h => h) HS2.out ?_
  try simp only [Act.put, lay_out]
  refine anyS_take (i := 2) (x := .tmp 15) (p := .pointer (some ⟨b, 0, none⟩)) (v := .pointer (some ⟨b, 0, none⟩)) rfl (asks_of rfl rfl (fun cs b e => (by cases e)) (fun ρ w => rfl) (fun ρ h w hw => by have h := h; clear hw; simp only [execOp]; go_simp)) rfl rfl (by kernel_rfl) (by kernel_rfl) (by kernel_rfl) (fun _ _ _ h => h) HS2.out ?_
  try simp only [Act.put, lay_out]
  refine anyS_take (i := 3) (x := .tmp 16) (p := .pointer (some ⟨b, 0, none⟩)) (v := .pointer (some ⟨b, 27, none⟩)) rfl (asks_of rfl rfl (fun cs b e => (by cases e)) (fun ρ w => rfl) (fun ρ h w hw => by have h := h; clear hw; simp only [execOp]; go_simp)) rfl rfl (by kernel_rfl) (by kernel_rfl) (by kernel_rfl) (fun _ _ _ h => h) HS2.out ?_
  try simp only [Act.put, lay_out]
  refine anyS_take (i := 4) (x := .tmp 17) (p := .pointer (some ⟨b, 27, none⟩)) (v := .int .i64 (f : Int)) rfl (asks_of rfl rfl (fun cs b e => (by cases e)) (fun ρ w => rfl) (fun ρ h w hw => by have hc := hw.2.at; clear hw; simp only [execOp]; go_simp)) rfl rfl (by kernel_rfl) (by kernel_rfl) (by kernel_rfl) (fun _ _ _ h => h) HS2.out ?_
  try simp only [Act.put, lay_out]
  refine anyS_take (i := 5) (x := .tmp 2) (p := .pointer (some ⟨w.heap.size, 0, none⟩)) (v := .pointer (some ⟨b, 0, none⟩)) rfl (asks_of rfl rfl (fun cs b e => (by cases e)) (fun ρ w => rfl) (fun ρ h w hw => by have hc := one_box hw.1; clear hw; simp only [execOp]; go_simp)) rfl rfl (by kernel_rfl) (by kernel_rfl) (by kernel_rfl) (fun _ _ _ h => h) HS2.out ?_
  try simp only [Act.put, lay_out]
  refine anyS_take (i := 6) (x := .tmp 19) (p := .pointer (some ⟨b, 0, none⟩)) (v := .pointer (some ⟨b, 0, none⟩)) rfl (asks_of rfl rfl (fun cs b e => (by cases e)) (fun ρ w => rfl) (fun ρ h w hw => by have h := h; clear hw; simp only [execOp]; go_simp)) rfl rfl (by kernel_rfl) (by kernel_rfl) (by kernel_rfl) (fun _ _ _ h => h) HS2.out ?_
  try simp only [Act.put, lay_out]
  refine anyS_take (i := 7) (x := .tmp 20) (p := .pointer (some ⟨b, 0, none⟩)) (v := .pointer (some ⟨b, 0, none⟩)) rfl (asks_of rfl rfl (fun cs b e => (by cases e)) (fun ρ w => rfl) (fun ρ h w hw => by have h := h; clear hw; simp only [execOp]; go_simp)) rfl rfl (by kernel_rfl) (by kernel_rfl) (by kernel_rfl) (fun _ _ _ h => h) HS2.out ?_
  try simp only [Act.put, lay_out]
  refine anyS_take (i := 8) (x := .tmp 21) (p := .pointer (some ⟨b, 0, none⟩)) (v := .int .i64 (R : Int)) rfl (asks_of rfl rfl (fun cs b e => (by cases e)) (fun ρ w => rfl) (fun ρ h w hw => by have hc := hw.2.rate; clear hw; simp only [execOp]; go_simp)) rfl rfl (by kernel_rfl) (by kernel_rfl) (by kernel_rfl) (fun _ _ _ h => h) HS2.out ?_
  try simp only [Act.put, lay_out]
  refine anyS_one (i := 9) rfl (by kernel_rfl) (fun K9 hK => ?_)
  rw [if_pos (by rfl)]
  go_simp
  refine ⟨trivial, ?_⟩
  gi_at_call 43
  refine (callsIn_wide.2 (pieces_any p ps.length cap f R w2)).mono ?_
  rintro e w3 ⟨rfl, rfl⟩
  have e1 : ∀ (u : World) (o : Obj) (j : Nat), j = u.heap.size → (u.alloc o).heap[j]? = some o := fun u o j h => by subst h; exact heap_alloc_new u o
  have e2 : ∀ (u : World) (o : Obj) (j : Nat) (x : Obj), u.heap[j]? = some x → (u.alloc o).heap[j]? = some x := fun u o j x h => (heap_alloc_old u o (Array.getElem?_eq_some_iff.1 h).1).trans h
  have HLy : Hid (∀ W3, ((w2.alloc (.cells #[.slice p ps.length cap] 22)).alloc (.cells #[.int .i64 (f : Int)] 3)).alloc (.cells #[.int .i64 (R : Int)] 3) = W3 →
      W3.heap[w.heap.size]? = some (.cells #[.pointer (some ⟨b, 0, none⟩)] 53 (0, 0)) ∧ Wo W3 b R mk F f false ∧ W3.heap[w.heap.size + 1]? = some (.cells #[.slice p ps.length cap] 22 (0, 0)) ∧ W3.heap[w.heap.size + 2]? = some (.cells #[.int .i64 (f : Int)] 3 (0, 0)) ∧
      W3.heap[w.heap.size + 3]? = some (.cells #[.int .i64 (R : Int)] 3 (0, 0)) ∧ W3.heap.size = w.heap.size + 4 ∧ Below w.heap.size w W3) := hid (by
    rintro W3 rfl
    refine ⟨e2 _ _ _ _ (e2 _ _ _ _ (e2 _ _ _ _ HS2.out.1)), ((HS2.out.2.alloc _).alloc _).alloc _, e2 _ _ _ _ (e2 _ _ _ _ (e1 _ _ _ (by omega))), e2 _ _ _ _ (e1 _ _ _ (by rw [World.size_alloc]; omega)), e1 _ _ _ (by rw [World.size_alloc, World.size_alloc]; omega), by simp; omega, ?_⟩
    exact ((HB2.out.alloc (by omega) _).alloc (by rw [World.size_alloc]; omega) _).alloc (by rw [World.size_alloc, World.size_alloc]; omega) _)
  generalize hW3 : ((w2.alloc (.cells #[.slice p ps.length cap] 22)).alloc (.cells #[.int .i64 (f : Int)] 3)).alloc (.cells #[.int .i64 (R : Int)] 3) = W3 at *
  have HW3 := hid (HLy.out W3 rfl)
  clear HLy hW3
  rw [hN2]
  refine hK.out _ _ ⟨HW3.out.1, HW3.out.2.1⟩ ?_
  clear hK K9 e1 e2 HS2 HB2 hN2
  refine anyS_done (by kernel_rfl) ?_ _
  try simp only [Act.put, lay_out]
  simp only [nrm, Exit.then]
  gi_wp2
  refine range_wide (w.heap.size + 5) (by rw [HW3.out.2.2.2.2.2.1]) (gf := 53) (lb := #[.pointer (some ⟨w.heap.size + 1, 0, none⟩), .pointer (some ⟨w.heap.size + 1 + 2, 0, none⟩), .pointer (some ⟨w.heap.size + 1 + 1, 0, none⟩)]) rfl (enters_of Try.func53 (by kernel_rfl) rfl) (fun rec r1 r0 r2 r3 r4 r5 => ?_)
  rw [HW3.out.2.2.2.2.2.1]
  obtain ⟨h1, h2, h3, h4, h5, h6, h7⟩ := HW3.out
  obtain ⟨W5, hW5⟩ : ∃ W5, (W3.alloc (.deferred (some []))).alloc (.loop rec) = W5 := ⟨_, rfl⟩
  rw [hW5]
  have e1 : ∀ (u : World) (o : Obj) (j : Nat), j = u.heap.size → (u.alloc o).heap[j]? = some o := fun u o j h => by subst h; exact heap_alloc_new u o
  have e2 : ∀ (u : World) (o : Obj) (j : Nat) (x : Obj), u.heap[j]? = some x → (u.alloc o).heap[j]? = some x := fun u o j x h => (heap_alloc_old u o (Array.getElem?_eq_some_iff.1 h).1).trans h
  have hrec : ({ rec with state := .ready, pending := none } : Loop) = rec := by cases rec; simp_all
  obtain ⟨⟨hq, hz, hl, hc1, hc2, hpa, hfl, hf, hb⟩, hk⟩ := And.intro HQ.out HK.out
  have hp := rd_bytes hk.rd
  have h25 : Wo W5 b (8 * q) mk (wkF q zs) f false := by rw [← hW5, HR.out, HF.out]; exact (h2.alloc _).alloc _
  have hF0 : Fw w b q mk zs ps rec 0 W5 := ⟨by rw [← hW5]; exact e1 _ _ _ (by rw [World.size_alloc]; omega), by rw [← hW5]; exact e2 _ _ _ _ (e1 _ _ _ (by omega)), by rw [← hW5]; exact e2 _ _ _ _ (e2 _ _ _ _ h1),
    by rw [List.take_zero, List.append_nil, HR.out, hf, ← HR.out]; exact h25, by rw [← hW5]; exact Only.of_below ((h7.alloc (by omega) _).alloc (by rw [World.size_alloc]; omega) _)⟩
  have ho : ∀ j, b < j → j < w.heap.size + 5 → ¬ (j = b ∨ j = w.heap.size + 5) := fun j h1 h2 => by omega
  refine (told_pieces (fun j => j = b ∨ j = w.heap.size + 5) (Fw w b q mk zs ps rec) (w.heap.size + 5) (w.heap.size + 1) (w.heap.size + 1 + 1) (w.heap.size + 1 + 2) R f ps.length cap p W5 ⟨hfl, by have := HR.out; omega, hl, hc1, hc2⟩ hpa (fun t A h => h.drew) (fun t A s qv c hA ht h0 hs hqv => ?_)
    ⟨by rw [← hW5]; exact e2 _ _ _ _ (e2 _ _ _ _ h3), by rw [← hW5]; exact e2 _ _ _ _ (e2 _ _ _ _ h4), by rw [← hW5]; exact e2 _ _ _ _ (e2 _ _ _ _ h5), ⟨ho _ (by omega) (by omega), ho _ (by omega) (by omega), ho _ (by omega) (by omega)⟩, hF0⟩).mono ?_
  · obtain ⟨g, off, hpo⟩ := hpa (by omega)
    have hqv2 := hqv g off hpo
    subst hqv2
    subst hpo
    refine round_wide hA.loop r1 r2 r3 r4 r5 rfl ?_
    have hsl : s ≤ ps.length - t := by rw [hs]; omega
    have hlen : ((ps.drop t).take s).length = s := by rw [List.length_take, List.length_drop]; omega
    have hta : (zs ++ ps.take t).length = zs.length + t := by rw [List.length_append, List.length_take]; omega
    have hfit : (zs ++ ps.take t).length % (8 * q) + s ≤ 8 * q := by
      have h9 := pc_fit (L := ps.length) hfl h0 hs
      have h8 : (zs.length + t) % R = (f + t) % R := by rw [← hf, Nat.mod_add_mod]
      rw [hta, HR.out, h8]
      exact h9
    have HA := hid hA
    have HKp : Hid (∀ C, Only b w C → Kept b C (.slice (some ⟨g, off + t, none⟩) s c) ((ps.drop t).take s)) := hid fun C hC W hW => rd_sub (hk W (hC.trans hW)) (by omega) (fun _ => rfl)
    have HEn := hid (fun C (hC : C = A.putObj (w.heap.size + 5) (.loop { rec with state := .busy })) => enter_any b q ((zs ++ ps.take t).length % (8 * q)) mk (wkF q (zs ++ ps.take t)) false (.slice (some ⟨g, off + t, none⟩) s c) ((ps.drop t).take s) C
      (by rw [hC]; exact hA.obj.put (by omega) _) (wk_w q _) hq (HKp.out C (by rw [hC]; exact only_put hA.low (by omega) _)) (by rw [hlen]; exact hfit))
    have HFe := hid (fun (C D : World) e hC hE => hA.entered hq hz hp hlen hfit (C := C) (D := D) hb hC hrec (e := e) hE)
    have HBx := hid hA.box
    clear hA hF0 h25 ho hk hp hz hrec hpa hqv hsl hlen hta hfit hs h0 r0 r1 r2 r3 r4 r5 h1 h2 h3 h4 h5 h6 h7 hW5 e1 e2
    simp only [Array.zip, List.zipWith_toArray, List.zipWith_cons_cons, List.zipWith_nil_right, List.foldl_toArray, List.foldl_cons, List.foldl_nil, List.setIfInBounds_toArray, lay_out]
    refine region0_R (by kernel_rfl) ?_
    go_wp2
    refine ⟨HA.out.loop, ?_⟩
    obtain ⟨C, hC⟩ : ∃ C, A.putObj (w.heap.size + 5) (.loop { rec with state := .busy }) = C := ⟨_, rfl⟩
    have c5 : C.cell? ⟨w.heap.size, 0, none⟩ = some (.pointer (some ⟨b, 0, none⟩)) := by rw [← hC]; exact one_box ((World.putObj_heap_other (by omega)).trans HBx.out)
    have HC := hid hC
    rw [hC]
    clear hC
    gi_wp2
    refine ⟨trivial, ?_⟩
    gi_at_call 44
    refine (callsR (HEn.out C HC.out.symm)).mono ?_
    rintro e w3 hE
    have HD := hid (HFe.out C w3 e HC.out.symm hE)
    obtain ⟨⟨v3, rfl⟩, _⟩ := hE
    gi_wp2
    exact ⟨HD.out.1, rfl, HD.out.2.1, HD.out.2.2⟩
  · rintro e w' ⟨⟨v, rfl⟩, hfe⟩
    refine ⟨v, rec, rfl, hfe.loop, by rw [r1]; simp, ?_⟩
    rw [r0]
    dsimp only
    have hlb : b ≠ w.heap.size + 5 := by omega
    have HO6 : Hid (Wo (w'.putObj (w.heap.size + 5) (.loop { rec with state := .exhausted })) b (8 * q) mk (wkF q (zs ++ ps)) ((zs ++ ps).length % (8 * q)) false ∧ Only b w (w'.putObj (w.heap.size + 5) (.loop { rec with state := .exhausted }))) := hid
      ⟨by have := hfe.obj; rw [List.take_length] at this; exact this.put hlb _, only_put hfe.low (by omega) _⟩
    have hK := (World.putObj_heap_other (w := w') (o := .loop { rec with state := .exhausted }) (show w.heap.size + 4 ≠ w.heap.size + 5 by omega)).trans hfe.dfr
    have HB := hid hb
    obtain ⟨w6, hw6⟩ : ∃ w6, w'.putObj (w.heap.size + 5) (.loop { rec with state := .exhausted }) = w6 := ⟨_, rfl⟩
    rw [r0] at hw6
    simp only [r0] at HO6 hK
    rw [hw6] at HO6 hK ⊢
    clear hw6 hfe hF0 h25 ho hk hp hz hrec hpa r0 r1 r2 r3 r4 r5 h1 h2 h3 h4 h5 h6 h7 hW5 e1 e2 hb hlb
    gi_wp2
    refine ⟨by simp, .inl ⟨_, _, rfl, run_takeDeferred hK, ?_⟩⟩
    exact ⟨_, results_tmp rfl _ _ _, rfl, HO6.out.1.put (by have := HB.out; omega) _, only_put HO6.out.2 (by omega) _⟩
end Go.Proofs.Ytfjgelialaccdaa
