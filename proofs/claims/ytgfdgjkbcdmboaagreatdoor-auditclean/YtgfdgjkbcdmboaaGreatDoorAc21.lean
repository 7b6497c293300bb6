/- audit.Check, as a contract. -/
import Derived.Test.YtgfdgjkbcdmboaaGreatDoorAc20
namespace Go.Proofs.YtgfdgjkbcdmboaaGreatDoor
set_option maxRecDepth 20000
open Go.RowKit
structure Au (w:World) (v:Value) (cs:List (Nat×Ce)):Prop where
 vw:Vw w v true (cot cs) (cat cs)
 wf:Wf cs []
 le:cs.length≤65536
 hn:∀w',Below w.heap.size w w'→Calls Tryz.prog 36 #[v] w' fun e w''=>∃a c,e=.returned (.slice a (slotsOf (cs.map pl)).length c)∧w''.ownsRow w'.heap.size 3 1 (.slice a (slotsOf (cs.map pl)).length c) (slotsOf (cs.map pl)).length (nats (slotsOf (cs.map pl)))∧Below w'.heap.size w' w''
theorem Au.grow {w w':World} {v:Value} {cs:List (Nat×Ce)} (h:Au w v cs) (hb:Below w.heap.size w w'):Au w' v cs:=⟨h.vw.grow hb,h.wf,h.le,fun w'' k=>h.hn w'' (Zb hb k)⟩
theorem Zgx {w:World} {a:Option Addr} {n c:Nat} {l:List Nat} (h:Lst w 3 1 (.slice a n c) n (nats l)) (hn:n=l.length) (k:Nat) (hk:k<n):∃g,a=some ⟨g,0,none⟩∧w.cell? ⟨g,k,none⟩=some (.int .i64 (l.getD k 0:Int)):=by
 obtain ⟨g,c',e,_⟩:=Zax h (by omega)
 injection e with e1 e2 e3
 subst e1
 refine ⟨g,rfl,?_⟩
 rw [Zay h k (by omega),Zhy l k (by omega)]
structure Rts (cs:List (Nat×Ce)) (R:List Nat):Prop where
 ok:auE (cot cs) (cat cs) (zN R)=0
 lv:∀h∈R,h≠0→0<cc cs (h-1)
def fnA (cs:List (Nat×Ce)) (P:List Nat) (L:List Nat):List Nat:=L.filter fun (h:Nat)=>decide (wnt P (h:Int)≠cc cs (h-1))
def flF (cs:List (Nat×Ce)) (P:List Nat) (L:List Nat):List Value:=L.flatMap fun (h:Nat)=>[.int .i64 (h:Int),.int .i64 (wnt P (h:Int):Int),.int .i64 (cc cs (h-1):Int)]
theorem Yek (cs:List (Nat×Ce)) (P L:List Nat) (h:Nat):flF cs P (L++[h])=flF cs P L++[.int .i64 (h:Int),.int .i64 (wnt P (h:Int):Int),.int .i64 (cc cs (h-1):Int)]:=by simp [flF]
theorem Yeh (cs:List (Nat×Ce)) (P L:List Nat) (h:Nat):fnA cs P (L++[h])=if wnt P (h:Int)=cc cs (h-1) then fnA cs P L else fnA cs P L++[h]:=by
 unfold fnA
 rw [List.filter_append]
 by_cases e:wnt P (h:Int)=cc cs (h-1)
 ·rw [if_pos e]
  simp [e]
 ·rw [if_neg e]
  simp [e]
def CkPost (cs:List (Nat×Ce)) (R:List Nat) (w:World) (e:Ending) (w':World):Prop:=∃P a c,e=.returned (.tuple #[.slice a (fnA cs P (slotsOf (cs.map pl))).length c,.int .i64 0])∧RdA cs R P∧w'.ownsRow w.heap.size 49 3 (.slice a (fnA cs P (slotsOf (cs.map pl))).length c) (fnA cs P (slotsOf (cs.map pl))).length (flF cs P (fnA cs P (slotsOf (cs.map pl))))∧Below w.heap.size w w'
theorem Yim:∃i z,Tryz.prog.info? 49=some i∧i.zero=some z∧i.size=3∧i.bytes=24∧z.cells.size=3:=⟨_,_,rfl,rfl,rfl,rfl,rfl⟩
set_option maxHeartbeats 4000000 in
theorem Zjt {w:World} {v:Value} {cs:List (Nat×Ce)} (A:Au w v cs) {R:List Nat} (hR:Rts cs R) {rv:Value} (hz:Zs w rv (zN R)):Calls Tryz.prog 17 #[v,rv] w (CkPost cs R w):=by
 have HL:=Za (Zmd A.vw A.wf A.le rv R hz hR.ok hR.lv)
 have HA:=Za A
 obtain ⟨L,hLe⟩:∃L,L=slotsOf (cs.map pl):=⟨_,rfl⟩
 have HN:Hid (∀w',Below w.heap.size w w'→Calls Tryz.prog 36 #[v] w' fun e w''=>∃a c,e=.returned (.slice a L.length c)∧w''.ownsRow w'.heap.size 3 1 (.slice a L.length c) L.length (nats L)∧Below w'.heap.size w' w''):=by
  rw [hLe]
  exact A.hn
 have HLB:Hid (∀k,k<L.length→∃x,L[k]?=some x∧x≠0∧0<cc cs (x-1)∧x≤65536):=fun k hk=>by
  have hm:=List.getElem_mem hk
  obtain ⟨i,e,h⟩:=(Zip (cs.map pl) _).1 (by rw [← hLe];exact hm)
  rw [Zal] at h
  have:=Zbd h
  have:=A.le
  refine ⟨L[k],List.getElem?_eq_getElem hk,by omega,?_,by omega⟩
  rw [e]
  exact h
 have HLL:Hid (L.length≤65536):=by
  show _≤_
  rw [hLe,Zbi]
  have:=A.le
  have h2:occs (cs.map pl)≤(cs.map pl).length:=by
   unfold occs
   exact List.countP_le_length
  rw [List.length_map] at h2
  omega
 have HPost:Hid (∀P a c n w',n=(fnA cs P L).length→RdA cs R P→w'.ownsRow w.heap.size 49 3 (.slice a n c) n (flF cs P (fnA cs P L))→Below w.heap.size w w'→CkPost cs R w (.returned (.tuple #[.slice a n c,.int .i64 0])) w'):=fun P a c n w' hn q1 q2 q3=>by
  rw [hn] at q2 ⊢
  rw [hLe] at q2 ⊢
  exact ⟨P,a,c,rfl,q1,q2,q3⟩
 generalize HE:CkPost cs R w=Post at HPost ⊢
 generalize HE2:L.length=M at HN HLL
 have HM:=Za HE2
 clear A hR hz HE hLe HE2
 go_enter Tryz.func17,Tryz.ntmps17
 go_wp2_with (first
  |(go_at_call 60;refine HL.out.mono ?_;rintro e w1 ⟨P,slv,bm,n,rfl,r1,o1,m1,l1,b1⟩;have HRD:=Za r1;have HO1:=Za o1;have HM1:=Za m1;have HB1:=Za b1;have HLM:=Za l1;obtain ⟨sa,sc,esl⟩:=Zi (Zt o1);subst esl;clear r1 o1 m1 b1 l1)
  |((with_reducible refine Zv 6 ?_);refine Zg _ rfl _ rfl _ Zig ?_;intro w2 b6 hg1 hl1 B2 q2;have HB2:=Za B2;have HQ2:=Za q2;have HG2:=Za hg1;clear hg1 hl1 B2 q2)
  |((with_reducible refine Zah 6 ?_);refine Zf _ rfl _ _ _ rfl b6 _ #[.slice sa (rch P).length sc,.map (some bm)] rfl rfl HB2.out Zfn rfl (by simp [Value.oneCell']) ?_;intro w3 B3 g3;have HB3:=Za B3;have HQ3:=Za (Ze HQ2.out g3 HG2.out);clear B3 g3)
  |(go_at_call 36;refine (HN.out _ (Zb HB1.out HQ3.out)).mono ?_;rintro e w4 ⟨la,lc,rfl,o4,b4⟩;have HO4:=Za o4;have HQ4:=Za b4;clear o4 b4))
 have HC1:Hid (∀w',Below w4.heap.size w4 w'→w'.cell? ⟨b6,1,none⟩=some (.map (some bm))):=fun w' hb=>by rw [(((HB3.out.grow HQ4.out).grow hb)).cell];rfl
 have HS4:=Za ((HM1.out.grow HQ3.out).grow HQ4.out)
 have HW4:=Za (Zb (Zb HB1.out HQ3.out) HQ4.out)
 clear HL HN HB3 HB2 HQ2 HG2 HO1 HM1
 go_loopw [25,8] (fun iv fv wr=>∃(k n:Nat) (a:Option Addr) (c:Nat),k≤M∧iv=.int .i64 (k:Int)∧fv=.slice a n c∧Hid (n=(fnA cs P (L.take k)).length)∧Hid (n≤k)∧Hid (wr.ownsRow w4.heap.size 49 3 (.slice a n c) n (flF cs P (fnA cs P (L.take k))))∧Hid (Below w4.heap.size w4 wr)) (fun iv _ _=>M-(intOf iv).toNat)
 case atStart=>exact ⟨0,0,none,0,by omega,rfl,rfl,rfl,Nat.le_refl _,(World.ownsRow_nil _ _ _ _:World.ownsRow w4 w4.heap.size 49 3 (.slice none 0 0) 0 []),Below.refl _ _⟩
 case round=>
  obtain ⟨k,n,a,c,hk,rfl,rfl,hn,hnk,hO,hB⟩:=hrel
  by_cases hlt:k<M
  ·obtain ⟨x,hx,x0,hxc,hx6⟩:=HLB.out k (by rw [HM.out];exact hlt)
   have hgx:L.getD k 0=x:=by rw [List.getD_eq_getElem?_getD,hx];rfl
   obtain ⟨gl,hla,hcl⟩:=Zgx (by have:=Zt HO4.out;exact this) HM.out.symm k hlt
   subst hla
   rw [hgx] at hcl
   have hcl:=Zp hB.out hcl
   have hot:cot cs (x:Int)=cc cs (x-1):=by unfold cot;rw [if_pos (by omega),show ((x:Int)-1).toNat=x-1 by omega]
   have HCT:Hid (∀w',Below wr.heap.size wr w'→Calls Tryz.prog 61 #[v,.int .i64 (x:Int)] w' fun e w''=>e=.returned (.int .i64 (cc cs (x-1):Int))∧w''=w'):=fun w' hb=>by
    have:=HA.out.vw.count w' (x:Int) (Zb (Zb HW4.out hB.out) hb)
    rwa [hot] at this
   have HLK:Hid (∀w',Below wr.heap.size wr w'→(Instr.lookup 103 (.map (some bm)) (.int .i64 (x:Int)) false).run Tryz.prog w'=.ok (.int .i64 (wnt P (x:Int):Int)) w'):=fun w' hb=>(HS4.out.grow (Zb hB.out hb)).look (Zfl x (by omega))
   have HC1:Hid (∀w',Below wr.heap.size wr w'→w'.cell? ⟨b6,1,none⟩=some (.map (some bm))):=fun w' hb=>HC1.out w' (Zb hB.out hb)
   have HTK:Hid (fnA cs P (L.take (k+1))=if wnt P (x:Int)=cc cs (x-1) then fnA cs P (L.take k) else fnA cs P (L.take k)++[x]):=by
    show _=_
    rw [List.take_add_one,hx]
    exact Yeh cs P _ x
   have HFS:=Za (Yek cs P (fnA cs P (L.take k)) x)
   have k0:(0:Int)≤(k:Int):=by omega
   have k1:(k:Int)<(M:Int):=by omega
   have hM6:=HLL.out
   have hwk:wrap64 ((k:Int)+1)=((k+1:Nat):Int):=by rw [Go.IntWalk.wrap64_in _ (by omega)];rfl
   obtain ⟨y,hy⟩:∃y:Int,y=(x:Int):=⟨_,rfl⟩
   rw [← hy] at hcl HCT HLK HFS
   obtain ⟨p,hp⟩:∃p,p=wnt P (x:Int):=⟨_,rfl⟩
   obtain ⟨q,hq⟩:∃q,q=cc cs (x-1):=⟨_,rfl⟩
   rw [hy,← hp,← hy] at HLK HFS
   rw [← hp] at HTK
   rw [← hq] at HCT HFS HTK
   clear hx x0 hxc hx6 hgx hot hp hq hy
   by_cases hpq:p=q
   ·have HT1:Hid (fnA cs P (L.take (k+1))=fnA cs P (L.take k)):=by
     have:=HTK.out
     rw [if_pos hpq] at this
     exact this
    have hpq2:(p:Int)=(q:Int):=by omega
    clear HTK HFS
    go_wp2_with fail
    refine wp_region_held_drew (S:=fun w'=>Below wr.heap.size wr w') (by kernel_rfl) (below_drewN (Below.refl _ _) 1) (fun hHeld=>?_)
    refine tkp 0 (.pointer (some ⟨b6,1,none⟩)) hHeld ?_
    simp only [zq]
    refine tkg 1 (.map (some bm)) rfl (Or.inl ⟨by rfl,fun w hS=>by (have q1:=HC1.out _ hS;go_simp)⟩) hHeld ?_
    simp only [zq]
    refine tkp 2 (.int .i64 y) hHeld ?_
    simp only [zq]
    refine tkg 3 (.int .i64 (p:Int)) rfl (Or.inl ⟨by rfl,fun w hS=>by (have q1:=HLK.out _ hS;go_simp)⟩) hHeld ?_
    simp only [zq]
    refine tkp 4 v hHeld ?_
    simp only [zq]
    refine tkp 5 (.int .i64 y) hHeld ?_
    simp only [zq]
    refine wpAnyH_ready (rs:=[6]) (by kernel_rfl) (by simp) ?_
    refine AllReadyH.cons rfl (fun KQ hK=>?_) AllReadyH.nil
    go_simp
    refine (HCT.out _ hHeld).mono ?_
    rintro e z1 ⟨rfl,e1⟩
    rw [e1]
    refine hK.out _ _ (hHeld) (fun hHeld=>?_)
    clear hK KQ
    refine tkp 7 (.int .i64 (p:Int)) hHeld ?_
    simp only [zq]
    refine tkp 8 (.int .i64 (q:Int)) hHeld ?_
    simp only [zq]
    refine wpAnyH_done (by kernel_rfl) ?_ _
    go_wp2_with fail
    exact ⟨⟨k+1,n,a,c,by omega,by go_num,rfl,by rw [HT1.out];exact hn,by have:=hnk.out;show _≤_;omega,by rw [HT1.out];exact hO,hB.out.drew⟩,by simp [intOf];exact Zjd k1⟩
   ·have HT1:Hid (fnA cs P (L.take (k+1))=fnA cs P (L.take k)++[x]):=by
     have:=HTK.out
     rw [if_neg hpq] at this
     exact this
    have hpq2: ¬(p:Int)=(q:Int):=by omega
    clear HTK
    go_wp2_with fail
    refine wp_region_held_drew (S:=fun w'=>Below wr.heap.size wr w') (by kernel_rfl) (below_drewN (Below.refl _ _) 1) (fun hHeld=>?_)
    refine tkp 0 (.pointer (some ⟨b6,1,none⟩)) hHeld ?_
    simp only [zq]
    refine tkg 1 (.map (some bm)) rfl (Or.inl ⟨by rfl,fun w hS=>by (have q1:=HC1.out _ hS;go_simp)⟩) hHeld ?_
    simp only [zq]
    refine tkp 2 (.int .i64 y) hHeld ?_
    simp only [zq]
    refine tkg 3 (.int .i64 (p:Int)) rfl (Or.inl ⟨by rfl,fun w hS=>by (have q1:=HLK.out _ hS;go_simp)⟩) hHeld ?_
    simp only [zq]
    refine tkp 4 v hHeld ?_
    simp only [zq]
    refine tkp 5 (.int .i64 y) hHeld ?_
    simp only [zq]
    refine wpAnyH_ready (rs:=[6]) (by kernel_rfl) (by simp) ?_
    refine AllReadyH.cons rfl (fun KQ hK=>?_) AllReadyH.nil
    go_simp
    refine (HCT.out _ hHeld).mono ?_
    rintro e z1 ⟨rfl,e1⟩
    rw [e1]
    refine hK.out _ _ (hHeld) (fun hHeld=>?_)
    clear hK KQ
    refine tkp 7 (.int .i64 (p:Int)) hHeld ?_
    simp only [zq]
    refine tkp 8 (.int .i64 (q:Int)) hHeld ?_
    simp only [zq]
    refine wpAnyH_done (by kernel_rfl) ?_ _
    have HOd:=Za (Zl (Zl hO.out hHeld) (Zd _ (.cells #[.int .i64 y,.int .i64 (p:Int),.int .i64 (q:Int)] 49)))
    have HDS:Hid (w4.heap.size≤wr.drew.heap.size):=hB.out.size
    have HNK:Hid (n+1≤65537):=by have:=hnk.out;show _≤_;omega
    clear e1 z1
    go_wp2_with (at_builtin;refine Zam _ rfl _ _ _ rfl w4.heap.size 49 3 24 Tryz.underlying43 Yim (by omega) _ n (flF cs P (fnA cs P (L.take k))) rfl HOd.out wr.drew.heap.size [.int .i64 y,.int .i64 (p:Int),.int .i64 (q:Int)] rfl (Blk.new _ _ _) rfl (by intro u hu;simp at hu;rcases hu with rfl | rfl | rfl <;> rfl) (by have:=HNK.out;simp only [maxLen];omega) (by have:=HNK.out;omega) (Nat.le_trans HDS.out (by simp)) ?_;intro a5 c5 w5 o5 g5;have HO5:=Za o5;have HB5:=Za (Zaa (Zb (Zb hB.out hHeld) (Zd _ (.cells #[.int .i64 y,.int .i64 (p:Int),.int .i64 (q:Int)] 49))) HOd.out (Nat.le_refl _) g5);clear o5 g5)
    refine ⟨⟨k+1,n+1,a5,c5,by omega,by go_num,rfl,?_,?_,?_,HB5⟩,by simp [intOf];exact Zjd k1⟩
    ·show _=_
     rw [HT1.out,List.length_append,hn.out]
     rfl
    ·have:=hnk.out
     show _≤_
     omega
    ·show World.ownsRow _ _ _ _ _ _ _
     rw [HT1.out,HFS.out]
     exact HO5.out
  ·obtain rfl:k=M:=by omega
   have nlt: ¬(k:Int)<(k:Int):=by omega
   have HF:Hid (∀w',Below wr.heap.size wr w'→Post (.returned (.tuple #[.slice a n c,.int .i64 0])) w'):=fun w' hb=>by
    have q1:=hO.out
    have q2:=hn.out
    rw [List.take_of_length_le (by rw [HM.out];omega)] at q1 q2
    exact HPost.out P a c n w' q2 HRD.out (Zl (Zao q1 HW4.out.size) hb) (Zb (Zb HW4.out hB.out) hb)
   go_wp2_with fail
   exact HF.out _ (Below.refl _ _)
def lsA (P:List Nat) (L:List Nat):List Nat:=L.filter fun (h:Nat)=>decide (wnt P (h:Int)=0)
theorem Ydl (P L:List Nat) (h:Nat):lsA P (L++[h])=if wnt P (h:Int)=0 then lsA P L++[h] else lsA P L:=by
 unfold lsA
 rw [List.filter_append]
 by_cases e:wnt P (h:Int)=0
 ·rw [if_pos e]
  simp [e]
 ·rw [if_neg e]
  simp [e]
def LoPost (cs:List (Nat×Ce)) (R:List Nat) (w:World) (e:Ending) (w':World):Prop:=∃P a c,e=.returned (.tuple #[.slice a (lsA P (slotsOf (cs.map pl))).length c,.int .i64 0])∧RdA cs R P∧w'.ownsRow w.heap.size 3 1 (.slice a (lsA P (slotsOf (cs.map pl))).length c) (lsA P (slotsOf (cs.map pl))).length (nats (lsA P (slotsOf (cs.map pl))))∧Below w.heap.size w w'
set_option maxHeartbeats 4000000 in
theorem Ydm {w:World} {v:Value} {cs:List (Nat×Ce)} (A:Au w v cs) {R:List Nat} (hR:Rts cs R) {rv:Value} (hz:Zs w rv (zN R)):Calls Tryz.prog 22 #[v,rv] w (LoPost cs R w):=by
 have HL:=Za (Zmd A.vw A.wf A.le rv R hz hR.ok hR.lv)
 obtain ⟨L,hLe⟩:∃L,L=slotsOf (cs.map pl):=⟨_,rfl⟩
 have HN:Hid (∀w',Below w.heap.size w w'→Calls Tryz.prog 36 #[v] w' fun e w''=>∃a c,e=.returned (.slice a L.length c)∧w''.ownsRow w'.heap.size 3 1 (.slice a L.length c) L.length (nats L)∧Below w'.heap.size w' w''):=by
  rw [hLe]
  exact A.hn
 have HLB:Hid (∀k,k<L.length→∃x,L[k]?=some x∧x≤65536):=fun k hk=>by
  have hm:=List.getElem_mem hk
  obtain ⟨i,e,h⟩:=(Zip (cs.map pl) _).1 (by rw [← hLe];exact hm)
  rw [Zal] at h
  have:=Zbd h
  have:=A.le
  exact ⟨L[k],List.getElem?_eq_getElem hk,by omega⟩
 have HLL:Hid (L.length≤65536):=by
  show _≤_
  rw [hLe,Zbi]
  have:=A.le
  have h2:occs (cs.map pl)≤(cs.map pl).length:=by
   unfold occs
   exact List.countP_le_length
  rw [List.length_map] at h2
  omega
 have HPost:Hid (∀P a c n w',n=(lsA P L).length→RdA cs R P→w'.ownsRow w.heap.size 3 1 (.slice a n c) n (nats (lsA P L))→Below w.heap.size w w'→LoPost cs R w (.returned (.tuple #[.slice a n c,.int .i64 0])) w'):=fun P a c n w' hn q1 q2 q3=>by
  rw [hn] at q2 ⊢
  rw [hLe] at q2 ⊢
  exact ⟨P,a,c,rfl,q1,q2,q3⟩
 generalize HE:LoPost cs R w=Post at HPost ⊢
 generalize HE2:L.length=M at HN HLL
 have HM:=Za HE2
 clear A hR hz HE hLe HE2
 go_enter Tryz.func22,Tryz.ntmps22
 go_wp2_with (first
  |(go_at_call 60;refine HL.out.mono ?_;rintro e w1 ⟨P,slv,bm,n,rfl,r1,o1,m1,l1,b1⟩;have HRD:=Za r1;have HO1:=Za o1;have HM1:=Za m1;have HB1:=Za b1;have HLM:=Za l1;obtain ⟨sa,sc,esl⟩:=Zi (Zt o1);subst esl;clear r1 o1 m1 b1 l1)
  |((with_reducible refine Zv 6 ?_);refine Zg _ rfl _ rfl _ Zig ?_;intro w2 b6 hg1 hl1 B2 q2;have HB2:=Za B2;have HQ2:=Za q2;have HG2:=Za hg1;clear hg1 hl1 B2 q2)
  |((with_reducible refine Zah 6 ?_);refine Zf _ rfl _ _ _ rfl b6 _ #[.slice sa (rch P).length sc,.map (some bm)] rfl rfl HB2.out Zfn rfl (by simp [Value.oneCell']) ?_;intro w3 B3 g3;have HB3:=Za B3;have HQ3:=Za (Ze HQ2.out g3 HG2.out);clear B3 g3)
  |(go_at_call 36;refine (HN.out _ (Zb HB1.out HQ3.out)).mono ?_;rintro e w4 ⟨la,lc,rfl,o4,b4⟩;have HO4:=Za o4;have HQ4:=Za b4;clear o4 b4))
 have HC1:Hid (∀w',Below w4.heap.size w4 w'→w'.cell? ⟨b6,1,none⟩=some (.map (some bm))):=fun w' hb=>by rw [(((HB3.out.grow HQ4.out).grow hb)).cell];rfl
 have HS4:=Za ((HM1.out.grow HQ3.out).grow HQ4.out)
 have HW4:=Za (Zb (Zb HB1.out HQ3.out) HQ4.out)
 clear HL HN HB3 HB2 HQ2 HG2 HO1 HM1
 go_loopw [23,8] (fun iv fv wr=>∃(k n:Nat) (a:Option Addr) (c:Nat),k≤M∧iv=.int .i64 (k:Int)∧fv=.slice a n c∧Hid (n=(lsA P (L.take k)).length)∧Hid (n≤k)∧Hid (wr.ownsRow w4.heap.size 3 1 (.slice a n c) n (nats (lsA P (L.take k))))∧Hid (Below w4.heap.size w4 wr)) (fun iv _ _=>M-(intOf iv).toNat)
 case atStart=>exact ⟨0,0,none,0,by omega,rfl,rfl,rfl,Nat.le_refl _,(World.ownsRow_nil _ _ _ _:World.ownsRow w4 w4.heap.size 3 1 (.slice none 0 0) 0 []),Below.refl _ _⟩
 case round=>
  obtain ⟨k,n,a,c,hk,rfl,rfl,hn,hnk,hO,hB⟩:=hrel
  by_cases hlt:k<M
  ·obtain ⟨x,hx,hx6⟩:=HLB.out k (by rw [HM.out];exact hlt)
   have hgx:L.getD k 0=x:=by rw [List.getD_eq_getElem?_getD,hx];rfl
   obtain ⟨gl,hla,hcl⟩:=Zgx (by have:=Zt HO4.out;exact this) HM.out.symm k hlt
   subst hla
   rw [hgx] at hcl
   have hcl:=Zp hB.out hcl
   have hlk:=(HS4.out.grow hB.out).look (Zfl x (by omega))
   have hc1:=HC1.out _ hB.out
   have HTK:Hid (lsA P (L.take (k+1))=if wnt P (x:Int)=0 then lsA P (L.take k)++[x] else lsA P (L.take k)):=by
    show _=_
    rw [List.take_add_one,hx]
    exact Ydl P _ x
   have k0:(0:Int)≤(k:Int):=by omega
   have k1:(k:Int)<(M:Int):=by omega
   have hM6:=HLL.out
   have hwk:wrap64 ((k:Int)+1)=((k+1:Nat):Int):=by rw [Go.IntWalk.wrap64_in _ (by omega)];rfl
   have HNS:=Za (Zap (lsA P (L.take k)) x)
   obtain ⟨y,hy⟩:∃y:Int,y=(x:Int):=⟨_,rfl⟩
   obtain ⟨p,hp⟩:∃p,p=wnt P (x:Int):=⟨_,rfl⟩
   rw [← hp] at HTK hlk
   rw [← hy] at hcl hlk HNS
   clear hx hx6 hgx hp hy
   by_cases hpq:p=0
   ·have HT1:Hid (lsA P (L.take (k+1))=lsA P (L.take k)++[x]):=by
     have:=HTK.out
     rw [if_pos hpq] at this
     exact this
    have hpq2:(p:Int)=0:=by omega
    rw [hpq2] at hlk
    have HOd:=Za (Zl hO.out (Zd wr (.cells #[.int .i64 y] 3)))
    have HDS:Hid (w4.heap.size≤wr.heap.size):=hB.out.size
    have HNK:Hid (n+1≤65537):=by have:=hnk.out;show _≤_;omega
    clear HTK hpq hpq2
    go_wp2_with (at_builtin;refine Zam _ rfl _ _ _ rfl w4.heap.size 3 1 8 Tryz.underlying30 Zae (by omega) _ n (nats (lsA P (L.take k))) rfl HOd.out wr.heap.size [.int .i64 y] rfl (Blk.new _ _ _) rfl (by intro u hu;simp at hu;subst hu;rfl) (by have:=HNK.out;simp only [maxLen];omega) (by have:=HNK.out;omega) (Nat.le_trans HDS.out (by simp)) ?_;intro a5 c5 w5 o5 g5;have HO5:=Za o5;have HB5:=Za (Zaa (Zb hB.out (Zd wr (.cells #[.int .i64 y] 3))) HOd.out (Nat.le_refl _) g5);clear o5 g5)
    refine ⟨⟨k+1,n+1,a5,c5,by omega,by go_num,rfl,?_,?_,?_,HB5⟩,by simp [intOf];exact Zjd k1⟩
    ·show _=_
     rw [HT1.out,List.length_append,hn.out]
     rfl
    ·have:=hnk.out
     show _≤_
     omega
    ·show World.ownsRow _ _ _ _ _ _ _
     rw [HT1.out,HNS.out]
     exact HO5.out
   ·have HT1:Hid (lsA P (L.take (k+1))=lsA P (L.take k)):=by
     have:=HTK.out
     rw [if_neg hpq] at this
     exact this
    have hpq2: ¬(p:Int)=0:=by omega
    clear HTK HNS
    go_wp2_with fail
    exact ⟨⟨k+1,n,a,c,by omega,by go_num,rfl,by rw [HT1.out];exact hn,by have:=hnk.out;show _≤_;omega,by rw [HT1.out];exact hO,hB⟩,by simp [intOf];exact Zjd k1⟩
  ·obtain rfl:k=M:=by omega
   have nlt: ¬(k:Int)<(k:Int):=by omega
   have HF:Hid (Post (.returned (.tuple #[.slice a n c,.int .i64 0])) wr):=by
    have q1:=hO.out
    have q2:=hn.out
    rw [List.take_of_length_le (by rw [HM.out];omega)] at q1 q2
    exact HPost.out P a c n wr q2 HRD.out (Zao q1 HW4.out.size) (Zb HW4.out hB.out)
   go_wp2_with fail
   exact HF.out
def shA (P:List Nat) (L:List Nat):Nat:=(L.filter fun (h:Nat)=>decide (1<wnt P (h:Int))).length
def ShPost (cs:List (Nat×Ce)) (R:List Nat) (w:World) (e:Ending) (w':World):Prop:=∃P,e=.returned (.tuple #[.int .i64 (shA P (rch P):Int),.int .i64 0])∧RdA cs R P∧Below w.heap.size w w'
theorem Zwb (f:Nat→Nat):∀(A B:List Nat),A.Nodup→(∀x∈A,x∈B)→(A.map f).sum≤(B.map f).sum
 | [],B,_,_=>by simp
 | a::A,B,hn,hs=>by
  rw [List.nodup_cons] at hn
  have hp:=List.perm_cons_erase (hs a (by simp))
  have e:=(hp.map f).sum_nat
  have ih:=Zwb f A (B.erase a) hn.2 (fun x hx=>(List.mem_erase_of_ne (fun (q:x=a)=>hn.1 (by rw [← q];exact hx))).2 (hs x (by simp [hx])))
  rw [e,List.map_cons,List.map_cons,List.sum_cons,List.sum_cons]
  omega
structure Hld (cs:List (Nat×Ce)) (R:List Nat):Prop where
 own:∀i,own cs [] i=R.count (i+1)
 lv:∀h∈R,h≠0→0<cc cs (h-1)
theorem Hld.cw {cs:List (Nat×Ce)} {R:List Nat} (W:Wf cs []) (h:Hld cs R) (i:Nat):cc cs i=ns cs i+R.count (i+1):=by
 have c1:=W.own i
 have c2:=W.ab i
 rw [List.count_nil,h.own i] at c1
 omega
theorem Hld.all {cs:List (Nat×Ce)} {R P:List Nat} (W:Wf cs []) (h:Hld cs R) (hP:RdA cs R P):∀i,0<cc cs i→i+1∈rch P:=Znc W hP (fun i hi=>by
 rw [h.own i] at hi
 exact List.count_pos_iff.1 hi)
theorem Hld.found {cs:List (Nat×Ce)} {R P:List Nat} (W:Wf cs []) (h:Hld cs R) (hP:RdA cs R P):fnA cs P (slotsOf (cs.map pl))=[]:=by
 unfold fnA
 rw [List.filter_eq_nil_iff]
 intro x hx
 obtain ⟨x0,hxc⟩:=(Zbn cs x).1 hx
 obtain ⟨i,rfl⟩:∃i,x=i+1:=⟨x-1,by omega⟩
 have e1:=Zld W hP h.lv (h.all W hP) i
 have e2:=h.cw W i
 rw [Nat.add_sub_cancel] at hxc ⊢
 rw [e1]
 simp only [decide_eq_true_eq,ne_eq,Classical.not_not]
 omega
theorem Hld.lost {cs:List (Nat×Ce)} {R P:List Nat} (W:Wf cs []) (h:Hld cs R) (hP:RdA cs R P):lsA P (slotsOf (cs.map pl))=[]:=by
 unfold lsA
 rw [List.filter_eq_nil_iff]
 intro x hx
 obtain ⟨x0,hxc⟩:=(Zbn cs x).1 hx
 have h1:=h.all W hP (x-1) hxc
 rw [show x-1+1=x by omega] at h1
 simp only [decide_eq_true_eq]
 intro e
 exact (Zla P x x0).1 e h1
theorem Ygl {cs:List (Nat×Ce)} {R P:List Nat} (W:Wf cs []) (lv:∀h∈R,h≠0→0<cc cs (h-1)) (hP:RdA cs R P) (i:Nat):wnt P ((i+1:Nat):Int)≤R.count (i+1)+ns cs i:=by
 rw [Zil P _ (by omega),hP.count,← Zre cs i]
 have:=Zwb (fun y=>(sdH cs y).count (i+1)) (rch P) (slotsOf (cs.map pl)) (Zfz P) (fun x hx=>(Zbn cs x).2 (((hP.mem x).1 hx).live W lv))
 omega
theorem Hld.less {cs:List (Nat×Ce)} {R R' P:List Nat} {r:Nat} (W:Wf cs []) (h:Hld cs R) (hr:r≠0) (hc:∀x,R'.count x+(if x=r then 1 else 0)=R.count x) (hP:RdA cs R' P):fnA cs P (slotsOf (cs.map pl))≠[]∧∀x∈fnA cs P (slotsOf (cs.map pl)),wnt P (x:Int)<cc cs (x-1):=by
 have lv':∀h∈R',h≠0→0<cc cs (h-1):=fun x hx h0=>h.lv x (by
  have:=hc x
  have:=List.count_pos_iff.2 hx
  exact List.count_pos_iff.1 (by omega)) h0
 have hle:∀x:Nat,x≠0→wnt P (x:Int)≤cc cs (x-1):=fun x h0=>by
  obtain ⟨i,rfl⟩:∃i,x=i+1:=⟨x-1,by omega⟩
  have e1:=Ygl W lv' hP i
  have e2:=h.cw W i
  have e3:=hc (i+1)
  rw [Nat.add_sub_cancel]
  omega
 refine ⟨fun hn=>?_,fun x hx=>?_⟩
 ·have eq:∀i,0<cc cs i→wnt P ((i+1:Nat):Int)=cc cs i:=fun i hi=>by
   have hm:i+1∈slotsOf (cs.map pl):=(Zbn cs _).2 ⟨by omega,hi⟩
   unfold fnA at hn
   have:=(List.filter_eq_nil_iff.1 hn) (i+1) hm
   rw [Nat.add_sub_cancel] at this
   simpa using this
  have all:∀i,0<cc cs i→i+1∈rch P:=fun i hi=>by
   apply Classical.byContradiction
   intro q
   have:=(Zla P (i+1) (by omega)).2 q
   have:=eq i hi
   omega
  obtain ⟨i,rfl⟩:∃i,r=i+1:=⟨r-1,by omega⟩
  have e3:=hc (i+1)
  rw [if_pos rfl] at e3
  have e2:=h.cw W i
  have e4:=Zld W hP lv' all i
  have e5:=eq i (by omega)
  omega
 ·unfold fnA at hx
  obtain ⟨h1,h2⟩:=List.mem_filter.1 hx
  have h3:=hle x ((Zbn cs x).1 h1).1
  simp only [ne_eq,decide_eq_true_eq] at h2
  omega
def e00:Ent:=([],[])
def encP (k:List Int) (v:Value):List Value:=k.map (Value.int .u8)++[v]
theorem Zx (k:List Int) (v:Value) (h:k.length=32):(encP k v).length=33:=by simp [encP,h]
def PrAt (w:World) (v:Value) (V:Nat→Value) (es:List Ent):Prop:=
 ∃a cap,v=.slice a es.length cap∧es.length≤cap∧(0<es.length→∃g off,a=some ⟨g,off,none⟩∧∀i,i<es.length→w.rangeAt g (off+i * 33) (encP (es.getD i e00).1 (V i)))∧
  ∀i,i<es.length→Key (es.getD i e00).1∧Reads w (V i) (es.getD i e00).2
theorem Zdx {w w':World} {g o:Nat} {cs:List Value} (h:w.rangeAt g o cs) (hb:Below w.heap.size w w'):w'.rangeAt g o cs:=fun j v hv=>(hb.cell (p:=⟨g,o+j,none⟩) (block_lt_of_cell (h j v hv))).trans (h j v hv)
theorem PrAt.grow {w w':World} {v:Value} {V:Nat→Value} {es:List Ent} (h:PrAt w v V es) (hb:Below w.heap.size w w'):PrAt w' v V es:=by
 obtain ⟨a,cap,e,h1,h2,h3⟩:=h
 refine ⟨a,cap,e,h1,fun hp=>?_,fun i hi=>⟨(h3 i hi).1,(h3 i hi).2.grow hb⟩⟩
 obtain ⟨g,off,ea,hr⟩:=h2 hp
 exact ⟨g,off,ea,fun i hi=>Zdx (hr i hi) hb⟩
theorem PrAt.keys {w:World} {v:Value} {V:Nat→Value} {es:List Ent} (h:PrAt w v V es):∀e∈es,Key e.1:=by
 intro e he
 obtain ⟨_,_,_,_,_,h3⟩:=h
 obtain ⟨i,hi,rfl⟩:=List.mem_iff_getElem.1 he
 have:=(h3 i hi).1
 simpa [List.getD,hi] using this
def lsE:List (List Int)→List Ent→Int
 | _,[]=>0
 | ks,e::r=>if 1024<e.2.length then 4 else if e.1∈ks then 6 else lsE (ks++[e.1]) r
def errB (es:List Ent):Int:=if 4096<es.length then 4 else lsE [] es
theorem Ydk (ks:List (List Int)) (es:List Ent) (k:Nat) (hk:k<es.length):lsE ks (es.drop k)=if 1024<(es.getD k e00).2.length then 4 else if (es.getD k e00).1∈ks then 6 else lsE (ks++[(es.getD k e00).1]) (es.drop (k+1)):=by
 rw [List.drop_eq_getElem_cons hk,lsE]
 simp [List.getD,hk]
theorem Zyn (es:List Ent) (k:Nat) (hk:k<es.length):(es.take (k+1)).map (·.1)=(es.take k).map (·.1)++[(es.getD k e00).1]:=by
 rw [List.take_add_one,List.map_append]
 simp [List.getD,hk]
theorem Yfv:∀(ks:List (List Int)) (es:List Ent),lsE ks es=0→(∀e∈es,e.2.length≤1024)∧Apart1 es∧∀e∈es,e.1 ∉ ks
 | ks,[],_=>⟨by simp,List.Pairwise.nil,by simp⟩
 | ks,e::r,h=>by
  rw [lsE] at h
  split at h
  ·omega
  ·rename_i h1
   split at h
   ·omega
   ·rename_i h2
    obtain ⟨a,b,c⟩:=Yfv _ r h
    refine ⟨fun x hx=>?_,List.pairwise_cons.2 ⟨fun x hx e1=>?_,b⟩,fun x hx=>?_⟩
    ·rcases List.mem_cons.1 hx with rfl | hx
     ·omega
     ·exact a x hx
    ·exact c x hx (by simp [e1])
    ·rcases List.mem_cons.1 hx with rfl | hx
     ·exact h2
     ·exact fun hm=>c x hx (by simp [hm])
theorem Yfw:∀(ks:List (List Int)) (es:List Ent),(∀e∈es,e.2.length≤1024)→Apart1 es→(∀e∈es,e.1 ∉ ks)→lsE ks es=0
 | ks,[],_,_,_=>rfl
 | ks,e::r,h1,h2,h3=>by
  have a:=h1 e (by simp)
  rw [lsE,if_neg (by omega),if_neg (h3 e (by simp))]
  refine Yfw _ r (fun x hx=>h1 x (by simp [hx])) (List.pairwise_cons.1 h2).2 (fun x hx hm=>?_)
  rcases List.mem_append.1 hm with hm | hm
  ·exact h3 x (by simp [hx]) hm
  ·have:x.1=e.1:=by simpa using hm
   exact (List.pairwise_cons.1 h2).1 x hx this.symm
theorem Zeg:(Tryz.prog.info? 152).map (·.size)=some 33:=by kernel_rfl
theorem Yfn:∃fs,Tryz.prog.underlying 152=some (.struct fs):=⟨_,Tryz.underlying152⟩
theorem Zfr:∀w,(zeroValue 152).run Tryz.prog w=.ok (.agg (encP z32 (.slice none 0 0)).toArray) w:=zero_of_info (n:=33) (by kernel_rfl) |>.1
theorem Zic (k:List Int) (a:Option Addr) (l c:Nat):(encP k (.slice a l c)).toArray.all (·.oneCell')=true:=all_oneCell_toArray (fun v hv=>by
 unfold encP at hv
 rcases List.mem_append.1 hv with hv | hv
 ·obtain ⟨z,_,rfl⟩:=List.mem_map.1 hv
  rfl
 ·obtain rfl:v=.slice a l c:=by simpa using hv
  rfl)
theorem Zhw {w:World} {g:Nat} {t:TypeId} {k:List Int} {v:Value} (h:Blk w g t (encP k v).toArray):w.rangeAt g 0 (B k).toList:=by
 intro j u hu
 rw [Zaf] at hu
 have hj:j<(k.map (Value.int .u8)).length:=(List.getElem?_eq_some_iff.1 hu).1
 rw [Nat.zero_add,h.cell]
 simp only [encP,List.getElem?_toArray]
 rw [List.getElem?_append_left hj]
 exact hu
theorem Zhv {w:World} {g:Nat} {t:TypeId} {k:List Int} {v:Value} (h:Blk w g t (encP k v).toArray) (hk:k.length=32):w.cell? ⟨g,32,none⟩=some v:=by
 rw [h.cell]
 simp only [encP,List.getElem?_toArray]
 rw [List.getElem?_append_right (by simp [hk])]
 simp [hk]
theorem Zeq {ops:Array Oper} {rest:List Oper} {op:Oper} {a:Act} {Q:Exit→Act→World→Prop} (w:World) (hgd:op.guard=none) (x:Operand) (ho:op.op=.load 152 x)
  (g o:Nat) (k:List Int) (v:Value) (hx:a.eval x=.pointer (some ⟨g,o,none⟩)) (h:w.rangeAt g o (encP k v)) (hl:k.length=32)
  (hk:wpList Tryz.prog ops Q rest (a.put op.dst (.agg (encP k v).toArray)) w):wpList Tryz.prog ops Q (op::rest) a w:=by
 obtain ⟨fs,hu⟩:=Yfn
 exact wpList_load_mid hgd 152 x ho g o hx (encP k v) _ h hu rfl (by rw [Zx k v hl];exact Zeg) hk
theorem Zer {ops:Array Oper} {rest:List Oper} {op:Oper} {a:Act} {Q:Exit→Act→World→Prop} (w:World) (hgd:op.guard=none) (x:Operand) (ho:op.op=.load 34 x)
  (g o:Nat) (k:List Int) (hx:a.eval x=.pointer (some ⟨g,o,none⟩)) (h:w.rangeAt g o (B k).toList) (hl:k.length=32)
  (hk:wpList Tryz.prog ops Q rest (a.put op.dst (.agg (B k))) w):wpList Tryz.prog ops Q (op::rest) a w:=
 wpList_load_mid hgd 34 x ho g o hx (B k).toList _ h Tryz.underlying34 rfl (by rw [Zaf,List.length_map,hl];exact Zcn) (by simpa using hk)
end Go.Proofs.YtgfdgjkbcdmboaaGreatDoor
