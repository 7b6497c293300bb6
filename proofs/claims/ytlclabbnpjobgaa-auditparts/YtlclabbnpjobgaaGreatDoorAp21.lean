/- audit.Check, as a contract. -/
import Derived.Test.YtlclabbnpjobgaaGreatDoorAp20
import Derived.Shelf.Sort.Plain
import Derived.Ground.NamesProg
namespace Go.Proofs.YtlclabbnpjobgaaGreatDoor
variable {c n:Nat}
variable {cs:Lz}
variable {l:List Nat}
variable {v:Value}
variable {w w':World}
set_option maxHeartbeats 4000000
set_option maxRecDepth 20000
open Go.RowKit
structure Au (w:World) (v:Value) (cs:Lz):Prop where
 vw:Vw w v true (cot cs) (cat cs)
 wf:Wf cs []
 le:cs.length≤65536
 hn:∀w',Kb w w'→Kc 29 #[v] w' fun e w''=>∃a c,e=.returned (.slice a (slotsOf (cs.map pl)).length c)∧w''.ownsRow w'.heap.size 3 1 (.slice a (slotsOf (cs.map pl)).length c) (slotsOf (cs.map pl)).length (nats (slotsOf (cs.map pl)))∧Below w'.heap.size w' w''
theorem Au.grow (h:Au w v cs) (hb:Kb w w'):Au w' v cs:=⟨h.vw.grow hb,h.wf,h.le,fun w'' k=>h.hn w'' (Zb hb k)⟩
theorem Zvu {a:Option Addr} (h:Lst w 3 1 (.slice a n c) n (nats l)) (hn:n=l.length) (k:Nat) (hk:k<n):∃g,a=some ⟨g,0,none⟩∧w.cell? ⟨g,k,none⟩=some (.int .i64 (l.getD k 0:Int)):=by
 obtain ⟨g,c',e,_⟩:=Zat h (by omega);injection e with e1 e2 e3;subst e1;refine ⟨g,rfl,?_⟩;rw [Zay h k (by omega),Zhd l k (by omega)]
structure Rts (cs:Lz) (R:List Nat):Prop where
 ok:auE (cot cs) (cat cs) (zN R)=0
 lv:∀h∈R,h≠0→0<cc cs (h-1)
def fnA (cs:Lz) (P:List Nat) (L:List Nat):List Nat:=L.filter fun (h:Nat)=>decide (wnt P (h:Int)≠cc cs (h-1))
def flF (cs:Lz) (P:List Nat) (L:List Nat):List Value:=L.flatMap fun (h:Nat)=>[.int .i64 (h:Int),.int .i64 (wnt P (h:Int):Int),.int .i64 (cc cs (h-1):Int)]
theorem Ybb (cs:Lz) (P L:List Nat) (h:Nat):flF cs P (L++[h])=flF cs P L++[.int .i64 (h:Int),.int .i64 (wnt P (h:Int):Int),.int .i64 (cc cs (h-1):Int)]:=by simp [flF]
theorem Yay (cs:Lz) (P L:List Nat) (h:Nat):fnA cs P (L++[h])=if wnt P (h:Int)=cc cs (h-1) then fnA cs P L else fnA cs P L++[h]:=by
 unfold fnA;rw [List.filter_append]
 by_cases e:wnt P (h:Int)=cc cs (h-1)
 ·rw [if_pos e];simp [e]
 ·rw [if_neg e];simp [e]
def CkPost (cs:Lz) (R:List Nat) (w:World) (e:Ending) (w':World):Prop:=∃P a c,e=.returned (.tuple #[.slice a (fnA cs P (slotsOf (cs.map pl))).length c,.int .i64 0])∧RdA cs R P∧w'.ownsRow w.heap.size 71 3 (.slice a (fnA cs P (slotsOf (cs.map pl))).length c) (fnA cs P (slotsOf (cs.map pl))).length (flF cs P (fnA cs P (slotsOf (cs.map pl))))∧Kb w w'
theorem Yer:∃i z,Tryz.prog.info? 71=some i∧i.zero=some z∧i.size=3∧i.bytes=24∧z.cells.size=3:=⟨_,_,rfl,rfl,rfl,rfl,rfl⟩
theorem Zod (A:Au w v cs) {R:List Nat} (hR:Rts cs R) {rv:Value} (hz:Zs w rv (zN R)):Kc 24 #[v,rv] w (CkPost cs R w):=by
 have HL:=Za (Zkn A.vw A.wf A.le rv R hz hR.ok hR.lv);have HA:=Za A;obtain ⟨L,hLe⟩:∃L,L=slotsOf (cs.map pl):=⟨_,rfl⟩;have HN:Hid (∀w',Kb w w'→Kc 29 #[v] w' fun e w''=>∃a c,e=.returned (.slice a L.length c)∧w''.ownsRow w'.heap.size 3 1 (.slice a L.length c) L.length (nats L)∧Below w'.heap.size w' w''):=by
  rw [hLe];exact A.hn
 have HLB:Hid (∀k,k<L.length→∃x,L[k]?=some x∧x≠0∧0<cc cs (x-1)∧x≤65536):=fun k hk=>by
  have hm:=List.getElem_mem hk;obtain ⟨i,e,h⟩:=(Zho (cs.map pl) _).1 (by rw [← hLe];exact hm);rw [Zae] at h;have:=Zaw h;have:=A.le;refine ⟨L[k],List.getElem?_eq_getElem hk,by omega,?_,by omega⟩;rw [e];exact h
 have HLL:Hid (L.length≤65536):=by
  show _≤_;rw [hLe,Zbf];have:=A.le;have h2:occs (cs.map pl)≤(cs.map pl).length:=by
   unfold occs;exact List.countP_le_length
  rw [List.length_map] at h2;omega
 have HPost:Hid (∀P a c n w',n=(fnA cs P L).length→RdA cs R P→w'.ownsRow w.heap.size 71 3 (.slice a n c) n (flF cs P (fnA cs P L))→Kb w w'→CkPost cs R w (.returned (.tuple #[.slice a n c,.int .i64 0])) w'):=fun P a c n w' hn q1 q2 q3=>by
  rw [hn] at q2 ⊢;rw [hLe] at q2 ⊢;exact ⟨P,a,c,rfl,q1,q2,q3⟩
 generalize HE:CkPost cs R w=Post at HPost ⊢;generalize HE2:L.length=M at HN HLL;have HM:=Za HE2;clear A hR hz HE hLe HE2;go_enter Tryz.func24,Tryz.ntmps24
 go_wp2_with (first
  |(go_at_call 27;refine HL.out.mono ?_;rintro e w1 ⟨P,slv,bm,n,rfl,r1,o1,m1,l1,b1⟩;have HRD:=Za r1;have HO1:=Za o1;have HM1:=Za m1;have HB1:=Za b1;have HLM:=Za l1;obtain ⟨sa,sc,esl⟩:=Zj (Zu o1);subst esl;clear r1 o1 m1 b1 l1)
  |((with_reducible refine Zv 6 ?_);refine Zh _ rfl _ rfl _ Zdw ?_;intro w2 b6 hg1 hl1 B2 q2;have HB2:=Za B2;have HQ2:=Za q2;have HG2:=Za hg1;clear hg1 hl1 B2 q2)
  |((with_reducible refine Zag 6 ?_);refine Zf _ rfl _ _ _ rfl b6 _ #[.slice sa (rch P).length sc,.map (some bm)] rfl rfl HB2.out Zcj rfl (by simp [Value.oneCell']) ?_;intro w3 B3 g3;have HB3:=Za B3;have HQ3:=Za (Ze HQ2.out g3 HG2.out);clear B3 g3)
  |(go_at_call 29;refine (HN.out _ (Zb HB1.out HQ3.out)).mono ?_;rintro e w4 ⟨la,lc,rfl,o4,b4⟩;have HO4:=Za o4;have HQ4:=Za b4;clear o4 b4))
 have HC1:Hid (∀w',Kb w4 w'→w'.cell? ⟨b6,1,none⟩=some (.map (some bm))):=fun w' hb=>by rw [(((HB3.out.grow HQ4.out).grow hb)).cell];rfl
 have HS4:=Za ((HM1.out.grow HQ3.out).grow HQ4.out);have HW4:=Za (Zb (Zb HB1.out HQ3.out) HQ4.out);clear HL HN HB3 HB2 HQ2 HG2 HO1 HM1
 go_loopw [25,8] (fun iv fv wr=>∃(k n:Nat) (a:Option Addr) (c:Nat),k≤M∧iv=.int .i64 (k:Int)∧fv=.slice a n c∧Hid (n=(fnA cs P (L.take k)).length)∧Hid (n≤k)∧Hid (wr.ownsRow w4.heap.size 71 3 (.slice a n c) n (flF cs P (fnA cs P (L.take k))))∧Hid (Kb w4 wr)) (fun iv _ _=>M-(intOf iv).toNat)
 case atStart=>exact ⟨0,0,none,0,by omega,rfl,rfl,rfl,Nat.le_refl _,(World.ownsRow_nil _ _ _ _:World.ownsRow w4 w4.heap.size 71 3 (.slice none 0 0) 0 []),Below.refl _ _⟩
 case round=>
  obtain ⟨k,n,a,c,hk,rfl,rfl,hn,hnk,hO,hB⟩:=hrel
  by_cases hlt:k<M
  ·obtain ⟨x,hx,x0,hxc,hx6⟩:=HLB.out k (by rw [HM.out];exact hlt);have hgx:L.getD k 0=x:=by rw [List.getD_eq_getElem?_getD,hx];rfl
   obtain ⟨gl,hla,hcl⟩:=Zvu (by have:=Zu HO4.out;exact this) HM.out.symm k hlt;subst hla;rw [hgx] at hcl;have hcl:=Zx hB.out hcl;have hot:cot cs (x:Int)=cc cs (x-1):=by unfold cot;rw [if_pos (by omega),show ((x:Int)-1).toNat=x-1 by omega]
   have HCT:Hid (∀w',Kb wr w'→Kc 32 #[v,.int .i64 (x:Int)] w' fun e w''=>e=.returned (.int .i64 (cc cs (x-1):Int))∧w''=w'):=fun w' hb=>by
    have:=HA.out.vw.count w' (x:Int) (Zb (Zb HW4.out hB.out) hb);rwa [hot] at this
   have HLK:Hid (∀w',Kb wr w'→(Instr.lookup 76 (.map (some bm)) (.int .i64 (x:Int)) false).run Tryz.prog w'=.ok (.int .i64 (wnt P (x:Int):Int)) w'):=fun w' hb=>(HS4.out.grow (Zb hB.out hb)).look (Zdy x (by omega))
   have HC1:Hid (∀w',Kb wr w'→w'.cell? ⟨b6,1,none⟩=some (.map (some bm))):=fun w' hb=>HC1.out w' (Zb hB.out hb)
   have HTK:Hid (fnA cs P (L.take (k+1))=if wnt P (x:Int)=cc cs (x-1) then fnA cs P (L.take k) else fnA cs P (L.take k)++[x]):=by
    show _=_;rw [List.take_add_one,hx];exact Yay cs P _ x
   have HFS:=Za (Ybb cs P (fnA cs P (L.take k)) x);have k0:(0:Int)≤(k:Int):=by omega
   have k1:(k:Int)<(M:Int):=by omega
   have hM6:=HLL.out;have hwk:wrap64 ((k:Int)+1)=((k+1:Nat):Int):=by rw [Go.IntWalk.wrap64_in _ (by omega)];rfl
   obtain ⟨y,hy⟩:∃y:Int,y=(x:Int):=⟨_,rfl⟩;rw [← hy] at hcl HCT HLK HFS;obtain ⟨p,hp⟩:∃p,p=wnt P (x:Int):=⟨_,rfl⟩;obtain ⟨q,hq⟩:∃q,q=cc cs (x-1):=⟨_,rfl⟩;rw [hy,← hp,← hy] at HLK HFS;rw [← hp] at HTK;rw [← hq] at HCT HFS HTK;clear hx x0 hxc hx6 hgx hot hp hq hy
   by_cases hpq:p=q
   ·have HT1:Hid (fnA cs P (L.take (k+1))=fnA cs P (L.take k)):=by
     have:=HTK.out;rw [if_pos hpq] at this;exact this
    have hpq2:(p:Int)=(q:Int):=by omega
    clear HTK HFS
    go_wp2_with fail
    refine wp_region_held_drew (S:=fun w'=>Kb wr w') (by kernel_rfl) (below_drewN (Below.refl _ _) 1) (fun hHeld=>?_);refine tkp 0 (.pointer (some ⟨b6,1,none⟩)) hHeld ?_;simp only [zq];refine tkg 1 (.map (some bm)) rfl (Or.inl ⟨by rfl,fun w hS=>by (have q1:=HC1.out _ hS;go_simp)⟩) hHeld ?_;simp only [zq];refine tkp 2 (.int .i64 y) hHeld ?_;simp only [zq];refine tkg 3 (.int .i64 (p:Int)) rfl (Or.inl ⟨by rfl,fun w hS=>by (have q1:=HLK.out _ hS;go_simp)⟩) hHeld ?_;simp only [zq];refine tkp 4 v hHeld ?_;simp only [zq];refine tkp 5 (.int .i64 y) hHeld ?_;simp only [zq];refine wpAnyH_ready (rs:=[6]) (by kernel_rfl) (by simp) ?_;refine AllReadyH.cons rfl (fun KQ hK=>?_) AllReadyH.nil;go_simp;refine (HCT.out _ hHeld).mono ?_;rintro e z1 ⟨rfl,e1⟩;rw [e1];refine hK.out _ _ (hHeld) (fun hHeld=>?_);clear hK KQ;refine tkp 7 (.int .i64 (p:Int)) hHeld ?_;simp only [zq];refine tkp 8 (.int .i64 (q:Int)) hHeld ?_;simp only [zq];refine wpAnyH_done (by kernel_rfl) ?_ _
    go_wp2_with fail
    exact ⟨⟨k+1,n,a,c,by omega,by go_num,rfl,by rw [HT1.out];exact hn,by have:=hnk.out;show _≤_;omega,by rw [HT1.out];exact hO,hB.out.drew⟩,by simp [intOf];exact Zrn k1⟩
   ·have HT1:Hid (fnA cs P (L.take (k+1))=fnA cs P (L.take k)++[x]):=by
     have:=HTK.out;rw [if_neg hpq] at this;exact this
    have hpq2: ¬(p:Int)=(q:Int):=by omega
    clear HTK
    go_wp2_with fail
    refine wp_region_held_drew (S:=fun w'=>Kb wr w') (by kernel_rfl) (below_drewN (Below.refl _ _) 1) (fun hHeld=>?_);refine tkp 0 (.pointer (some ⟨b6,1,none⟩)) hHeld ?_;simp only [zq];refine tkg 1 (.map (some bm)) rfl (Or.inl ⟨by rfl,fun w hS=>by (have q1:=HC1.out _ hS;go_simp)⟩) hHeld ?_;simp only [zq];refine tkp 2 (.int .i64 y) hHeld ?_;simp only [zq];refine tkg 3 (.int .i64 (p:Int)) rfl (Or.inl ⟨by rfl,fun w hS=>by (have q1:=HLK.out _ hS;go_simp)⟩) hHeld ?_;simp only [zq];refine tkp 4 v hHeld ?_;simp only [zq];refine tkp 5 (.int .i64 y) hHeld ?_;simp only [zq];refine wpAnyH_ready (rs:=[6]) (by kernel_rfl) (by simp) ?_;refine AllReadyH.cons rfl (fun KQ hK=>?_) AllReadyH.nil;go_simp;refine (HCT.out _ hHeld).mono ?_;rintro e z1 ⟨rfl,e1⟩;rw [e1];refine hK.out _ _ (hHeld) (fun hHeld=>?_);clear hK KQ;refine tkp 7 (.int .i64 (p:Int)) hHeld ?_;simp only [zq];refine tkp 8 (.int .i64 (q:Int)) hHeld ?_;simp only [zq];refine wpAnyH_done (by kernel_rfl) ?_ _;have HOd:=Za (Zl (Zl hO.out hHeld) (Zc _ (.cells #[.int .i64 y,.int .i64 (p:Int),.int .i64 (q:Int)] 71)));have HDS:Hid (w4.heap.size≤wr.drew.heap.size):=hB.out.size;have HNK:Hid (n+1≤65537):=by have:=hnk.out;show _≤_;omega
    clear e1 z1
    go_wp2_with (at_builtin;refine Zai _ rfl _ _ _ rfl w4.heap.size 71 3 24 Tryz.underlying67 Yer (by omega) _ n (flF cs P (fnA cs P (L.take k))) rfl HOd.out wr.drew.heap.size [.int .i64 y,.int .i64 (p:Int),.int .i64 (q:Int)] rfl (Blk.new _ _ _) rfl (by intro u hu;simp at hu;rcases hu with rfl | rfl | rfl <;> rfl) (by have:=HNK.out;simp only [maxLen];omega) (by have:=HNK.out;omega) (Nat.le_trans HDS.out (by simp)) ?_;intro a5 c5 w5 o5 g5;have HO5:=Za o5;have HB5:=Za (Zaf (Zb (Zb hB.out hHeld) (Zc _ (.cells #[.int .i64 y,.int .i64 (p:Int),.int .i64 (q:Int)] 71))) HOd.out (Nat.le_refl _) g5);clear o5 g5)
    refine ⟨⟨k+1,n+1,a5,c5,by omega,by go_num,rfl,?_,?_,?_,HB5⟩,by simp [intOf];exact Zrn k1⟩
    ·show _=_;rw [HT1.out,List.length_append,hn.out];rfl
    ·have:=hnk.out;show _≤_;omega
    ·show World.ownsRow _ _ _ _ _ _ _;rw [HT1.out,HFS.out];exact HO5.out
  ·obtain rfl:k=M:=by omega
   have nlt: ¬(k:Int)<(k:Int):=by omega
   have HF:Hid (∀w',Kb wr w'→Post (.returned (.tuple #[.slice a n c,.int .i64 0])) w'):=fun w' hb=>by
    have q1:=hO.out;have q2:=hn.out;rw [List.take_of_length_le (by rw [HM.out];omega)] at q1 q2;exact HPost.out P a c n w' q2 HRD.out (Zl (Zaj q1 HW4.out.size) hb) (Zb (Zb HW4.out hB.out) hb)
   go_wp2_with fail
   exact HF.out _ (Below.refl _ _)
def lsA (P:List Nat) (L:List Nat):List Nat:=L.filter fun (h:Nat)=>decide (wnt P (h:Int)=0)
theorem Yaa (P L:List Nat) (h:Nat):lsA P (L++[h])=if wnt P (h:Int)=0 then lsA P L++[h] else lsA P L:=by
 unfold lsA;rw [List.filter_append]
 by_cases e:wnt P (h:Int)=0
 ·rw [if_pos e];simp [e]
 ·rw [if_neg e];simp [e]
def LoPost (cs:Lz) (R:List Nat) (w:World) (e:Ending) (w':World):Prop:=∃P a c,e=.returned (.tuple #[.slice a (lsA P (slotsOf (cs.map pl))).length c,.int .i64 0])∧RdA cs R P∧w'.ownsRow w.heap.size 3 1 (.slice a (lsA P (slotsOf (cs.map pl))).length c) (lsA P (slotsOf (cs.map pl))).length (nats (lsA P (slotsOf (cs.map pl))))∧Kb w w'
theorem Yab (A:Au w v cs) {R:List Nat} (hR:Rts cs R) {rv:Value} (hz:Zs w rv (zN R)):Kc 9 #[v,rv] w (LoPost cs R w):=by
 have HL:=Za (Zkn A.vw A.wf A.le rv R hz hR.ok hR.lv);obtain ⟨L,hLe⟩:∃L,L=slotsOf (cs.map pl):=⟨_,rfl⟩;have HN:Hid (∀w',Kb w w'→Kc 29 #[v] w' fun e w''=>∃a c,e=.returned (.slice a L.length c)∧w''.ownsRow w'.heap.size 3 1 (.slice a L.length c) L.length (nats L)∧Below w'.heap.size w' w''):=by
  rw [hLe];exact A.hn
 have HLB:Hid (∀k,k<L.length→∃x,L[k]?=some x∧x≤65536):=fun k hk=>by
  have hm:=List.getElem_mem hk;obtain ⟨i,e,h⟩:=(Zho (cs.map pl) _).1 (by rw [← hLe];exact hm);rw [Zae] at h;have:=Zaw h;have:=A.le;exact ⟨L[k],List.getElem?_eq_getElem hk,by omega⟩
 have HLL:Hid (L.length≤65536):=by
  show _≤_;rw [hLe,Zbf];have:=A.le;have h2:occs (cs.map pl)≤(cs.map pl).length:=by
   unfold occs;exact List.countP_le_length
  rw [List.length_map] at h2;omega
 have HPost:Hid (∀P a c n w',n=(lsA P L).length→RdA cs R P→w'.ownsRow w.heap.size 3 1 (.slice a n c) n (nats (lsA P L))→Kb w w'→LoPost cs R w (.returned (.tuple #[.slice a n c,.int .i64 0])) w'):=fun P a c n w' hn q1 q2 q3=>by
  rw [hn] at q2 ⊢;rw [hLe] at q2 ⊢;exact ⟨P,a,c,rfl,q1,q2,q3⟩
 generalize HE:LoPost cs R w=Post at HPost ⊢;generalize HE2:L.length=M at HN HLL;have HM:=Za HE2;clear A hR hz HE hLe HE2;go_enter Tryz.func9,Tryz.ntmps9
 go_wp2_with (first
  |(go_at_call 27;refine HL.out.mono ?_;rintro e w1 ⟨P,slv,bm,n,rfl,r1,o1,m1,l1,b1⟩;have HRD:=Za r1;have HO1:=Za o1;have HM1:=Za m1;have HB1:=Za b1;have HLM:=Za l1;obtain ⟨sa,sc,esl⟩:=Zj (Zu o1);subst esl;clear r1 o1 m1 b1 l1)
  |((with_reducible refine Zv 6 ?_);refine Zh _ rfl _ rfl _ Zdw ?_;intro w2 b6 hg1 hl1 B2 q2;have HB2:=Za B2;have HQ2:=Za q2;have HG2:=Za hg1;clear hg1 hl1 B2 q2)
  |((with_reducible refine Zag 6 ?_);refine Zf _ rfl _ _ _ rfl b6 _ #[.slice sa (rch P).length sc,.map (some bm)] rfl rfl HB2.out Zcj rfl (by simp [Value.oneCell']) ?_;intro w3 B3 g3;have HB3:=Za B3;have HQ3:=Za (Ze HQ2.out g3 HG2.out);clear B3 g3)
  |(go_at_call 29;refine (HN.out _ (Zb HB1.out HQ3.out)).mono ?_;rintro e w4 ⟨la,lc,rfl,o4,b4⟩;have HO4:=Za o4;have HQ4:=Za b4;clear o4 b4))
 have HC1:Hid (∀w',Kb w4 w'→w'.cell? ⟨b6,1,none⟩=some (.map (some bm))):=fun w' hb=>by rw [(((HB3.out.grow HQ4.out).grow hb)).cell];rfl
 have HS4:=Za ((HM1.out.grow HQ3.out).grow HQ4.out);have HW4:=Za (Zb (Zb HB1.out HQ3.out) HQ4.out);clear HL HN HB3 HB2 HQ2 HG2 HO1 HM1
 go_loopw [23,8] (fun iv fv wr=>∃(k n:Nat) (a:Option Addr) (c:Nat),k≤M∧iv=.int .i64 (k:Int)∧fv=.slice a n c∧Hid (n=(lsA P (L.take k)).length)∧Hid (n≤k)∧Hid (wr.ownsRow w4.heap.size 3 1 (.slice a n c) n (nats (lsA P (L.take k))))∧Hid (Kb w4 wr)) (fun iv _ _=>M-(intOf iv).toNat)
 case atStart=>exact ⟨0,0,none,0,by omega,rfl,rfl,rfl,Nat.le_refl _,(World.ownsRow_nil _ _ _ _:World.ownsRow w4 w4.heap.size 3 1 (.slice none 0 0) 0 []),Below.refl _ _⟩
 case round=>
  obtain ⟨k,n,a,c,hk,rfl,rfl,hn,hnk,hO,hB⟩:=hrel
  by_cases hlt:k<M
  ·obtain ⟨x,hx,hx6⟩:=HLB.out k (by rw [HM.out];exact hlt);have hgx:L.getD k 0=x:=by rw [List.getD_eq_getElem?_getD,hx];rfl
   obtain ⟨gl,hla,hcl⟩:=Zvu (by have:=Zu HO4.out;exact this) HM.out.symm k hlt;subst hla;rw [hgx] at hcl;have hcl:=Zx hB.out hcl;have hlk:=(HS4.out.grow hB.out).look (Zdy x (by omega));have hc1:=HC1.out _ hB.out;have HTK:Hid (lsA P (L.take (k+1))=if wnt P (x:Int)=0 then lsA P (L.take k)++[x] else lsA P (L.take k)):=by
    show _=_;rw [List.take_add_one,hx];exact Yaa P _ x
   have k0:(0:Int)≤(k:Int):=by omega
   have k1:(k:Int)<(M:Int):=by omega
   have hM6:=HLL.out;have hwk:wrap64 ((k:Int)+1)=((k+1:Nat):Int):=by rw [Go.IntWalk.wrap64_in _ (by omega)];rfl
   have HNS:=Za (Zan (lsA P (L.take k)) x);obtain ⟨y,hy⟩:∃y:Int,y=(x:Int):=⟨_,rfl⟩;obtain ⟨p,hp⟩:∃p,p=wnt P (x:Int):=⟨_,rfl⟩;rw [← hp] at HTK hlk;rw [← hy] at hcl hlk HNS;clear hx hx6 hgx hp hy
   by_cases hpq:p=0
   ·have HT1:Hid (lsA P (L.take (k+1))=lsA P (L.take k)++[x]):=by
     have:=HTK.out;rw [if_pos hpq] at this;exact this
    have hpq2:(p:Int)=0:=by omega
    rw [hpq2] at hlk;have HOd:=Za (Zl hO.out (Zc wr (.cells #[.int .i64 y] 3)));have HDS:Hid (w4.heap.size≤wr.heap.size):=hB.out.size;have HNK:Hid (n+1≤65537):=by have:=hnk.out;show _≤_;omega
    clear HTK hpq hpq2
    go_wp2_with (at_builtin;refine Zai _ rfl _ _ _ rfl w4.heap.size 3 1 8 Tryz.underlying28 Zah (by omega) _ n (nats (lsA P (L.take k))) rfl HOd.out wr.heap.size [.int .i64 y] rfl (Blk.new _ _ _) rfl (by intro u hu;simp at hu;subst hu;rfl) (by have:=HNK.out;simp only [maxLen];omega) (by have:=HNK.out;omega) (Nat.le_trans HDS.out (by simp)) ?_;intro a5 c5 w5 o5 g5;have HO5:=Za o5;have HB5:=Za (Zaf (Zb hB.out (Zc wr (.cells #[.int .i64 y] 3))) HOd.out (Nat.le_refl _) g5);clear o5 g5)
    refine ⟨⟨k+1,n+1,a5,c5,by omega,by go_num,rfl,?_,?_,?_,HB5⟩,by simp [intOf];exact Zrn k1⟩
    ·show _=_;rw [HT1.out,List.length_append,hn.out];rfl
    ·have:=hnk.out;show _≤_;omega
    ·show World.ownsRow _ _ _ _ _ _ _;rw [HT1.out,HNS.out];exact HO5.out
   ·have HT1:Hid (lsA P (L.take (k+1))=lsA P (L.take k)):=by
     have:=HTK.out;rw [if_neg hpq] at this;exact this
    have hpq2: ¬(p:Int)=0:=by omega
    clear HTK HNS
    go_wp2_with fail
    exact ⟨⟨k+1,n,a,c,by omega,by go_num,rfl,by rw [HT1.out];exact hn,by have:=hnk.out;show _≤_;omega,by rw [HT1.out];exact hO,hB⟩,by simp [intOf];exact Zrn k1⟩
  ·obtain rfl:k=M:=by omega
   have nlt: ¬(k:Int)<(k:Int):=by omega
   have HF:Hid (Post (.returned (.tuple #[.slice a n c,.int .i64 0])) wr):=by
    have q1:=hO.out;have q2:=hn.out;rw [List.take_of_length_le (by rw [HM.out];omega)] at q1 q2;exact HPost.out P a c n wr q2 HRD.out (Zaj q1 HW4.out.size) (Zb HW4.out hB.out)
   go_wp2_with fail
   exact HF.out
def shA (P:List Nat) (L:List Nat):Nat:=(L.filter fun (h:Nat)=>decide (1<wnt P (h:Int))).length
def ShPost (cs:Lz) (R:List Nat) (w:World) (e:Ending) (w':World):Prop:=∃P,e=.returned (.tuple #[.int .i64 (shA P (rch P):Int),.int .i64 0])∧RdA cs R P∧Kb w w'
structure Hld (cs:Lz) (R:List Nat):Prop where
 own:∀i,own cs [] i=R.count (i+1)
 lv:∀h∈R,h≠0→0<cc cs (h-1)
open Go.Shelf
def sortI_ren:Go.Shelf.Ren:=⟨fun | 189=>28 | 125=>65 | 257=>64 | 128=>112 | 129=>113 | 294=>103 | 295=>104 | 296=>105 | 297=>106 | 298=>107 | 299=>108 | 216=>109 | 300=>110 | 301=>111 | 328=>150 | 329=>151 | 330=>152 | 331=>153 | 332=>154 | 215=>155 | 343=>177 | n=>n,fun | 28=>28 | 3=>3 | 46=>124 | 0=>0 | 51=>169 | 53=>171 | 4=>4 | 183=>161 | 182=>160 | 131=>166 | 5=>5 | 9=>9 | 218=>206 | 222=>210 | 228=>230 | 229=>101 | n=>n,fun | n=>n⟩
theorem Ygf:Go.Proofs.Lays.n189 Tryz.prog sortI_ren:={
 mixed:=by kernel_rfl
 f125:=Tryz.func65.trans (congrArg some (by kernel_rfl))
 f128:=Tryz.func112.trans (congrArg some (by kernel_rfl))
 f129:=Tryz.func113.trans (congrArg some (by kernel_rfl))
 f189:=Tryz.func28.trans (congrArg some (by kernel_rfl))
 f215:=Tryz.func155.trans (congrArg some (by kernel_rfl))
 f216:=Tryz.func109.trans (congrArg some (by kernel_rfl))
 f257:=Tryz.func64.trans (congrArg some (by kernel_rfl))
 f294:=Tryz.func103.trans (congrArg some (by kernel_rfl))
 f295:=Tryz.func104.trans (congrArg some (by kernel_rfl))
 f296:=Tryz.func105.trans (congrArg some (by kernel_rfl))
 f297:=Tryz.func106.trans (congrArg some (by kernel_rfl))
 f298:=Tryz.func107.trans (congrArg some (by kernel_rfl))
 f299:=Tryz.func108.trans (congrArg some (by kernel_rfl))
 f300:=Tryz.func110.trans (congrArg some (by kernel_rfl))
 f301:=Tryz.func111.trans (congrArg some (by kernel_rfl))
 f328:=Tryz.func150.trans (congrArg some (by kernel_rfl))
 f329:=Tryz.func151.trans (congrArg some (by kernel_rfl))
 f330:=Tryz.func152.trans (congrArg some (by kernel_rfl))
 f331:=Tryz.func153.trans (congrArg some (by kernel_rfl))
 f332:=Tryz.func154.trans (congrArg some (by kernel_rfl))
 f343:=Tryz.func177.trans (congrArg some (by kernel_rfl))
 t0:=Tryz.underlying0
 a0:=Tryz.isAgg0
 z0:=Tryz.sizeOf0
 v0:=Tryz.zeroValue0
 t3:=Tryz.underlying3
 a3:=Tryz.isAgg3
 z3:=Tryz.sizeOf3
 v3:=Tryz.zeroValue3
 t4:=Tryz.underlying4
 a4:=Tryz.isAgg4
 z4:=Tryz.sizeOf4
 v4:=Tryz.zeroValue4
 t5:=Tryz.underlying5
 a5:=Tryz.isAgg5
 z5:=Tryz.sizeOf5
 v5:=Tryz.zeroValue5
 t9:=Tryz.underlying9
 a9:=Tryz.isAgg9
 z9:=Tryz.sizeOf9
 v9:=Tryz.zeroValue9
 t28:=Tryz.underlying28
 a28:=Tryz.isAgg28
 z28:=Tryz.sizeOf28
 v28:=Tryz.zeroValue28
 t46:=Tryz.underlying124
 a46:=Tryz.isAgg124
 z46:=Tryz.sizeOf124
 v46:=Tryz.zeroValue124
 t51:=Tryz.underlying169
 a51:=Tryz.isAgg169
 z51:=Tryz.sizeOf169
 v51:=Tryz.zeroValue169
 t53:=Tryz.underlying171
 a53:=Tryz.isAgg171
 z53:=Tryz.sizeOf171
 v53:=Tryz.zeroValue171
 t131:=Tryz.underlying166
 a131:=Tryz.isAgg166
 z131:=Tryz.sizeOf166
 v131:=Tryz.zeroValue166
 t182:=Tryz.underlying160
 a182:=Tryz.isAgg160
 z182:=Tryz.sizeOf160
 v182:=Tryz.zeroValue160
 t183:=Tryz.underlying161
 a183:=Tryz.isAgg161
 z183:=Tryz.sizeOf161
 v183:=Tryz.zeroValue161
 t218:=Tryz.underlying206
 a218:=Tryz.isAgg206
 z218:=Tryz.sizeOf206
 v218:=Tryz.zeroValue206
 t222:=Tryz.underlying210
 a222:=Tryz.isAgg210
 z222:=Tryz.sizeOf210
 v222:=Tryz.zeroValue210
 t228:=Tryz.underlying230
 a228:=Tryz.isAgg230
 z228:=Tryz.sizeOf230
 v228:=Tryz.zeroValue230
 t229:=Tryz.underlying101
 a229:=Tryz.isAgg101
 z229:=Tryz.sizeOf101
 v229:=Tryz.zeroValue101}
end Go.Proofs.YtlclabbnpjobgaaGreatDoor
