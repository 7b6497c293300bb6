/- The document's Way, as a contract. -/
import Derived.Test.YtlclabbnpjobgaaGreatDoorAp40
namespace Go.Proofs.YtlclabbnpjobgaaGreatDoor
variable {S fr fr':List Nat}
variable {T:Tre}
variable {cs:Lz}
variable {q room:Nat}
variable {u v':Value}
variable {w w0:World}
set_option maxRecDepth 20000
open Go.RowKit
def WyPost9 (hs:List Nat) (fin:Nat) (w:World) (e:Ending) (w':World):Prop:=∃a c,e=.returned (.tuple #[.slice a hs.length c,.int .i64 (fin:Int)])∧w'.ownsRow w.heap.size 3 1 (.slice a hs.length c) hs.length (nats hs)∧Kb w w'
set_option maxHeartbeats 4000000 in
theorem Ydg (V:Hr w0 S w q room cs fr) (h:Nat) (T:Tre) (hT:IsT cs h T) (K:Lq) (hK:Key K) (hrd:(sdC cs h).kind=2→(sdC cs h).dp=0):Kc 138 #[.pointer (some ⟨q,0,none⟩),.int .i64 (h:Int),.agg (B K)] w (WyPost9 (T.hs K h) (T.fin K h) w):=by
 have HPS:Hid ((Tryz.prog.info? 48).map (·.size)=some (B K).size):=by show _=_;rw [Zn,hK.1];exact Zi
 have HV:=Za V;have HW:=Za V.wf;have HK:=Za hK;have HT:=Za hT;have HRD:=Za hrd;have HN:Hid ((T.hs K h).length≤256):=by
  show _≤_;rw [Tre.hs_oth];have:=(Zcr V.wf K T h 0 hT hrd (by omega)).2.2;omega
 have HPost:Hid (∀a c w',w'.ownsRow w.heap.size 3 1 (.slice a (T.hs K h).length c) (T.hs K h).length (nats (T.hs K h))→Kb w w'→WyPost9 (T.hs K h) (T.fin K h) w (.returned (.tuple #[.slice a (T.hs K h).length c,.int .i64 (T.fin K h:Int)])) w'):=fun a c w' h1 h2=>⟨a,c,rfl,h1,h2⟩
 obtain ⟨hh,hhe⟩:∃y:Int,y=(h:Int):=⟨_,rfl⟩;rw [← hhe];have HHE:=Za hhe;clear V hK hT hhe hrd;generalize HE:WyPost9 (T.hs K h) (T.fin K h) w=P at HPost ⊢;go_enter Tryz.func138,Tryz.ntmps138
 go_wp2_with (first
  |((with_reducible refine Zo 5 ?_);refine Zd _ rfl _ _ rfl _ rfl ?_;intro w2 b5 hg5 hl5 B5 q5;have HB52:=Za B5;have HQ2:=Za q5;clear hg5 hl5 B5 q5))
 go_loopw [8,9] (fun wv ev wr=>∃(pre:List Nat) (x:Nat) (U:Tre) (a:Option Addr) (n c:Nat),wv=.slice a n c∧ev=.int .i64 (x:Int)∧Hid (n=pre.length)∧Hid (wr.ownsRow w2.heap.size 3 1 (.slice a n c) n (nats pre))∧Hid (IsT cs x U∧pre++U.hs K x=T.hs K h∧U.fin K x=T.fin K h∧((sdC cs x).kind=2→(sdC cs x).dp=n))∧Hid (Kb w2 wr)) (fun wv _ _=>300-sLen wv)
 case atStart=>exact ⟨[],h,T,none,0,0,rfl,by rw [HHE.out],rfl,World.ownsRow_nil _ _ _ _,⟨HT.out,rfl,rfl,HRD.out⟩,Below.refl _ _⟩
 case round=>
  clear HT HHE HRD;obtain ⟨pre,x,U,a,n,c,rfl,rfl,hn,hO,hU,hB⟩:=hrel;have HVR:=Za (HV.out.grow (Zb HQ2.out hB.out));have hlen:n+(U.hs K x).length=(T.hs K h).length:=by
   have:=congrArg List.length hU.out.2.1;rw [List.length_append] at this;rw [hn.out];exact this
  have h256:=HN.out;have HKD:Hid (Kc 141 #[.pointer (some ⟨q,0,none⟩),.int .i64 (x:Int)] wr fun e w'=>e=.returned (.int .u8 (cat cs (x:Int)).kind)∧Kb wr w'):=Zks HVR.out (x:Int);have HFin:Hid (U.hs K x=[]→U.fin K x=x→∀w',Kb wr w'→P (.returned (.tuple #[.slice a n c,.int .i64 (x:Int)])) w'):=fun e1 e2 w' hb=>by
   have q1:=hU.out.2.1;rw [e1,List.append_nil] at q1;have q2:=hU.out.2.2.1;rw [e2] at q2;have q3:=hn.out;have hO':=Zl (Zaj hO.out HQ2.out.size) hb;rw [q3,q1] at hO';rw [q3,q1,q2];exact HPost.out a c w' hO' (Zb (Zb HQ2.out hB.out) hb)
  cases U with
  | emp=>
   have hx:x=0:=hU.out.1;have HKZ:Hid ((cat cs (x:Int)).kind=0):=by rw [hx];rfl
   rw [HKZ.out] at HKD;have HF:=Za (HFin.out rfl rfl);generalize (x:Int)=y at HKD HF ⊢;clear HFin HKZ hx hU hlen h256 HVR
   go_wp2_with (first
    |(go_at_call 141;refine HKD.out.mono ?_;rintro e w3 ⟨rfl,b3⟩;have HB3:=Za b3;clear b3))
   exact HF.out _ HB3.out
  | lf k b=>
   obtain ⟨h1,h2,h3,h4,h5⟩:=hU.out.1;have HKZ:Hid ((cat cs (x:Int)).kind=1):=by rw [Zen h1];exact h3
   rw [HKZ.out] at HKD;have HF:=Za (HFin.out rfl rfl);generalize (x:Int)=y at HKD HF ⊢;clear HFin HKZ hU hlen h256 HVR h1 h2 h3 h4 h5
   go_wp2_with (first
    |(go_at_call 141;refine HKD.out.mono ?_;rintro e w3 ⟨rfl,b3⟩;have HB3:=Za b3;clear b3))
   exact HF.out _ HB3.out
  | nd d hl hr L R=>
   have hno:=Zit HW.out hU.out.1;obtain ⟨h1,h2,h3,h4,h5,h6,h7,h8⟩:=hU.out.1;have hca:=Zen (cs:=cs) h1;rw [show (cat cs (x:Int)).kind=2 by rw [hca];exact h3] at HKD;have hdn:d=n:=by
    have:=hU.out.2.2.2 (by rw [sdC,if_neg (by omega)];exact h3);rw [sdC,if_neg (by omega),h4] at this;exact this
   subst hdn;have HSD:Hid (Kr wr 168 #[.pointer (some ⟨q,0,none⟩),.int .i64 (x:Int)] (.tuple #[.int .i64 (hl:Int),.int .i64 (hr:Int)])):=fun w' hb=>by
    have:=Zpt (HVR.out.grow hb) (x:Int);rw [hca,h5,h6] at this;exact this
   have hdp:=hno.dp;have HKB:Hid (∀w',Kc 169 #[.agg (B K),.int .i64 (d:Int)] w' fun e w''=>e=.returned (.int .i64 (kb K d))∧Below w'.heap.size w' w''):=fun w'=>Zfd K d w' HK.out hdp
   have hcut:(Tre.nd d hl hr L R).hs K x=x::(if kb K d=1 then R.hs K hr else L.hs K hl):=rfl;have hfi:(Tre.nd d hl hr L R).fin K x=(if kb K d=1 then R.fin K hr else L.fin K hl):=rfl;have HNX:Hid (∃U',IsT cs (if kb K d=1 then hr else hl) U'∧(pre++[x])++U'.hs K (if kb K d=1 then hr else hl)=T.hs K h∧U'.fin K (if kb K d=1 then hr else hl)=T.fin K h∧((sdC cs (if kb K d=1 then hr else hl)).kind=2→(sdC cs (if kb K d=1 then hr else hl)).dp=d+1)):=by
    have q1:=hU.out.2.1;have q2:=hU.out.2.2.1;rw [hcut] at q1;rw [hfi] at q2;show ∃_,_
    by_cases q:kb K d=1
    ·rw [if_pos q] at q1 q2 ⊢;exact ⟨R,h8,by rw [List.append_assoc];exact q1,q2,hno.kr⟩
    ·rw [if_neg q] at q1 q2 ⊢;exact ⟨L,h7,by rw [List.append_assoc];exact q1,q2,hno.kl⟩
   have hn256:d+1≤256:=by
    rw [hcut,List.length_cons] at hlen;omega
   have hw1:wrap64 (d:Int)=(d:Int):=Go.IntWalk.wrap64_in _ (by omega);generalize kb K d=kd at HKB HNX;obtain ⟨y,hy⟩:∃y:Int,y=(x:Int):=⟨_,rfl⟩;rw [← hy] at HKD HSD;rw [← hy];have HY:=Za hy;have H256:=Za hn256;clear HFin hU hlen h256 HVR h1 h2 h3 h4 h5 h6 h7 h8 hca hcut hfi hno hy hn256 hdp
   by_cases k1:kd=1
   ·subst k1;rw [if_pos rfl] at HNX;have HKB1:Hid (∀w',Kc 169 #[.agg (B K),.int .i64 (d:Int)] w' fun e w''=>e=.returned (.int .i64 1)∧Below w'.heap.size w' w''):=HKB;clear HKB
    go_wp2_with (first
     |(go_at_call 141;refine HKD.out.mono ?_;rintro e w3 ⟨rfl,b3⟩;have HB3:=Za b3;clear b3)
     |(go_at_call 168;refine (HSD.out _ HB3.out).mono ?_;rintro e w3b ⟨rfl,b3⟩;replace HB3:=Za (Zb HB3.out b3);have HO3:=Za ((Zl (Zl hO.out HB3.out) (Zc w3b (.cells #[.int .i64 y] 3))));clear b3)
     |(at_builtin;refine Zai _ rfl _ _ _ rfl w2.heap.size 3 1 8 Tryz.underlying28 Zah (by omega) _ d (nats pre) rfl HO3.out w3b.heap.size [Value.int .i64 y] rfl (Blk.new _ _ _) rfl (by intro u hu;simp at hu;subst hu;rfl) (by have:=H256.out;simp only [maxLen];omega) (by have:=H256.out;omega) (Nat.le_trans hB.out.size (Nat.le_trans HB3.out.size (by simp))) ?_;intro a4 c4 w4 o4 g4;have HO4:=Za o4;have HB4:=Za (Zaf (Zb (Zb hB.out HB3.out) (Zc w3b (.cells #[.int .i64 y] 3))) HO3.out (Nat.le_refl _) g4);clear o4 g4)
     |((with_reducible refine Zk 28 5 ?_);refine Zg _ rfl _ _ rfl b5 _ rfl (HB52.out.grow HB4.out) _ _ Tryz.underlying48 HPS.out ?_)
     |(go_at_call 169;refine (HKB1.out _).mono ?_;rintro e w5 ⟨rfl,b5'⟩;have HB5:=Za b5';clear b5'))
    obtain ⟨U',hU1,hU2,hU3,hU4⟩:=HNX.out;have ho5:=Zl HO4.out HB5.out;rw [HY.out,← Zan] at ho5;exact ⟨⟨pre++[x],hr,U',a4,d+1,c4,rfl,rfl,by rw [List.length_append,List.length_singleton,← hn.out];exact rfl,ho5,⟨hU1,hU2,hU3,hU4⟩,Zb HB4.out HB5.out⟩,by have:=H256.out;simp only [sLen];omega⟩
   ·rw [if_neg k1] at HNX;have HKB1:Hid (∀w',Kc 169 #[.agg (B K),.int .i64 (d:Int)] w' fun e w''=>e=.returned (.int .i64 kd)∧Below w'.heap.size w' w''):=HKB;clear HKB
    go_wp2_with (first
     |(go_at_call 141;refine HKD.out.mono ?_;rintro e w3 ⟨rfl,b3⟩;have HB3:=Za b3;clear b3)
     |(go_at_call 168;refine (HSD.out _ HB3.out).mono ?_;rintro e w3b ⟨rfl,b3⟩;replace HB3:=Za (Zb HB3.out b3);have HO3:=Za ((Zl (Zl hO.out HB3.out) (Zc w3b (.cells #[.int .i64 y] 3))));clear b3)
     |(at_builtin;refine Zai _ rfl _ _ _ rfl w2.heap.size 3 1 8 Tryz.underlying28 Zah (by omega) _ d (nats pre) rfl HO3.out w3b.heap.size [Value.int .i64 y] rfl (Blk.new _ _ _) rfl (by intro u hu;simp at hu;subst hu;rfl) (by have:=H256.out;simp only [maxLen];omega) (by have:=H256.out;omega) (Nat.le_trans hB.out.size (Nat.le_trans HB3.out.size (by simp))) ?_;intro a4 c4 w4 o4 g4;have HO4:=Za o4;have HB4:=Za (Zaf (Zb (Zb hB.out HB3.out) (Zc w3b (.cells #[.int .i64 y] 3))) HO3.out (Nat.le_refl _) g4);clear o4 g4)
     |((with_reducible refine Zk 28 5 ?_);refine Zg _ rfl _ _ rfl b5 _ rfl (HB52.out.grow HB4.out) _ _ Tryz.underlying48 HPS.out ?_)
     |(go_at_call 169;refine (HKB1.out _).mono ?_;rintro e w5 ⟨rfl,b5'⟩;have HB5:=Za b5';clear b5'))
    obtain ⟨U',hU1,hU2,hU3,hU4⟩:=HNX.out;have ho5:=Zl HO4.out HB5.out;rw [HY.out,← Zan] at ho5;exact ⟨⟨pre++[x],hl,U',a4,d+1,c4,rfl,rfl,by rw [List.length_append,List.length_singleton,← hn.out];exact rfl,ho5,⟨hU1,hU2,hU3,hU4⟩,Zb HB4.out HB5.out⟩,by have:=H256.out;simp only [sLen];omega⟩
def RW9 (w5:World) (S:List Nat) (q room:Nat) (cs:Lz) (E:List Ent) (K bs:Lq) (ss:List Nat) (cs2:Lz) (fr2:List Nat) (topF m top:Nat) (w':World):Prop:=∃csP csR fr',RfI cs E K bs ss room m csP csR fr' top cs2 fr2 topF∧Hr w5 S w' q room csR fr'
def RM9 (w5:World) (S:List Nat) (q room:Nat) (cs:Lz) (E:List Ent) (K bs:Lq) (ss:List Nat) (cs2:Lz) (fr2:List Nat) (topF m top:Nat) (w':World):Prop:=∃csP csR fr',RfI cs E K bs ss room (m+1) csP csR fr' top cs2 fr2 topF∧Hr w5 S w' q room (csH csR (ss.getD m 0)) fr'
section
variable {w5 w':World} {S:List Nat} {q room:Nat} {cs:Lz} {E:List Ent} {K bs:Lq} {ss:List Nat} {cs2:Lz} {fr2:List Nat} {topF m top:Nat}
theorem RW9.kq {P:World→Prop} (h:RW9 w5 S q room cs E K bs ss cs2 fr2 topF m top w') (k:Kq S w5 P):P w':=by
 obtain ⟨_,_,_,_,H⟩:=h;exact H.kq k
theorem RM9.kq {P:World→Prop} (h:RM9 w5 S q room cs E K bs ss cs2 fr2 topF m top w') (k:Kq S w5 P):P w':=by
 obtain ⟨_,_,_,_,H⟩:=h;exact H.kq k
theorem RW9.grow {w'':World} (h:RW9 w5 S q room cs E K bs ss cs2 fr2 topF m top w') (hb:Below w'.heap.size w' w''):RW9 w5 S q room cs E K bs ss cs2 fr2 topF m top w'':=by
 obtain ⟨a,b,c,I,H⟩:=h;exact ⟨a,b,c,I,H.grow hb⟩
theorem Zyx (h:RW9 w5 S q room cs E K bs ss cs2 fr2 topF (m+1) top w') (h0:ss.getD m 0=0):RM9 w5 S q room cs E K bs ss cs2 fr2 topF m top w':=by
 obtain ⟨a,b,c,I,H⟩:=h;refine ⟨a,b,c,I,?_⟩;rw [h0,csH,if_pos rfl];exact H
theorem Zzb (hbo:BesOk cs E K ss) (hct:∀i,cc cs i+257<1073741824) (hroom:noc cs+258≤room) (hm:m<ss.length) (h0:ss.getD m 0≠0) (h:RW9 w5 S q room cs E K bs ss cs2 fr2 topF (m+1) top w'):Kc 54 #[.pointer (some ⟨q,0,none⟩),.int .i64 (ss.getD m 0:Int)] w' fun e w''=>e=.returned (.int .i64 0)∧RM9 w5 S q room cs E K bs ss cs2 fr2 topF m top w'':=by
 obtain ⟨csP,csR,fr',I,H⟩:=h;have st:=(Zum hbo hm hroom I).1;obtain ⟨s,hs⟩:∃s,s=ss.getD m 0:=⟨_,rfl⟩;have hmem:s∈ss:=by
  rw [hs,List.getD_eq_getElem?_getD,List.getElem?_eq_getElem hm];exact List.getElem_mem hm
 rw [← hs] at h0 st ⊢;have hocc:=(Zdk hbo s hmem).resolve_left h0;have hcnt:=I.ri.cnt (s-1) hocc;have hlt:cc csR (s-1)<1073741824:=by
  have h1:=I.lag.lcc (s-1);have h2:=List.count_le_length (l:=ss) (a:=s-1+1);have h3:=hbo.len;have h4:=hct (s-1);omega
 have hh:=Zwd H (s-1) (st.occ h0) hlt;rw [show (((s-1:Nat):Int)+1)=(s:Int) by omega] at hh;refine hh.mono ?_;rintro e w'' ⟨rfl,k⟩;refine ⟨rfl,csP,csR,fr',I,?_⟩;rw [← hs,csH,if_neg h0];exact k
theorem Zyy (hbo:BesOk cs E K ss) (hroom:noc cs+258≤room) (h5:room≤5000) (hK:Key K) (hm:m<ss.length) (h:RM9 w5 S q room cs E K bs ss cs2 fr2 topF m top w'):Kc 144 #[.pointer (some ⟨q,0,none⟩),.agg (B K),.int .i64 (m:Int),.int .i64 (top:Int),.int .i64 (ss.getD m 0:Int)] w' fun e w''=>∃t:Nat,e=.returned (.int .i64 (t:Int))∧RW9 w5 S q room cs E K bs ss cs2 fr2 topF m t w'':=by
 obtain ⟨csP,csR,fr',I,H⟩:=h;obtain ⟨st,csP',csR',hI,I'⟩:=Zum hbo hm hroom I;obtain ⟨u,hu,hf⟩:=st.fit;refine (Ygr H h5 K hK m top (ss.getD m 0) (by have:=hbo.len;omega) st.ml st.mr u hu hf st.full hI).mono ?_;rintro e w'' ⟨rfl,k⟩;exact ⟨_,rfl,csP',csR',_,I',k⟩
theorem Znb {csP csR:Lz} (W:Wf cs []) (I:RfI cs E K bs ss room m csP csR fr' top cs2 fr2 topF) {x:Nat} (hx:x=0∨0<cc cs (x-1)):(cat csR (x:Int)).kind=(sdC cs x).kind∧(cat csR (x:Int)).key=(sdC cs x).key∧(cat csR (x:Int)).l=(sdC cs x).l∧(cat csR (x:Int)).r=(sdC cs x).r:=by
 have:=W;rw [Zac];rcases hx with e | e
 ·subst e;exact ⟨rfl,rfl,rfl,rfl⟩
 ·by_cases h0:x=0
  ·subst h0;exact ⟨rfl,rfl,rfl,rfl⟩
  ·have hc:=(I.ri.keep (x-1) e).2;have hl:=I.lag.lce (x-1);unfold sdC;rw [if_neg h0,if_neg h0,hl,hc];exact ⟨rfl,rfl,rfl,rfl⟩
theorem Zub {root:Nat} (W:Wf cs []) (hT:IsT cs root T) (hrd:(sdC cs root).kind=2→(sdC cs root).dp=0) (hK:Key K) (hss:BesIs K T root ss) (hm:m<(T.hs K root).length) (h:RW9 w5 S q room cs E K bs ss cs2 fr2 topF (m+1) top w'):Kc 145 #[.pointer (some ⟨q,0,none⟩),.agg (B K),.int .i64 (m:Int),.int .i64 ((T.hs K root).getD m 0:Int)] w' fun e w''=>e=.returned (.int .i64 (ss.getD m 0:Int))∧RW9 w5 S q room cs E K bs ss cs2 fr2 topF (m+1) top w'':=by
 have hh:=h;obtain ⟨csP,csR,fr',I,H⟩:=h;obtain ⟨x,a1,a2,a3,a4,a5,a6,a7,a8⟩:=Yao W K T root 0 hT hrd m hm;rw [Nat.zero_add] at a5 a6 a7;have hx:(T.hs K root).getD m 0=x:=by rw [List.getD_eq_getElem?_getD,a1];rfl
 have hmo:m<(T.oth K).length:=by rw [← Tre.hs_oth K T root];exact hm
 have ho:ss.getD m 0=(if kb K m=1 then (ce cs (x-1)).l else (ce cs (x-1)).r):=by
  have e0:(T.oth K).getD m 0=(if kb K m=1 then (ce cs (x-1)).l else (ce cs (x-1)).r):=by rw [List.getD_eq_getElem?_getD,a7];rfl
  rcases hss with ⟨_,rfl⟩ | ⟨b,_,rfl⟩ | ⟨k,b,c,_,_,_,_,_,rfl⟩
  ·exact e0
  ·exact e0
  ·rw [Zqi _ _ _ _ hmo];exact e0
 rw [hx];have:=Ydq H K hK m a6 (x:Int);obtain ⟨_,_,c3,c4⟩:=Znb W I (x:=x) (.inr a3);rw [c3,c4,show sdC cs x=ce cs (x-1) from if_neg (by omega),← ho] at this;exact this.mono fun e w'' ⟨e1,b⟩=>⟨e1,hh.grow b⟩
theorem Zza (W:Wf cs []) {x:Nat} (hx:x=0∨0<cc cs (x-1)) (h:RW9 w5 S q room cs E K bs ss cs2 fr2 topF m top w'):Kc 141 #[.pointer (some ⟨q,0,none⟩),.int .i64 (x:Int)] w' fun e w''=>e=.returned (.int .u8 (sdC cs x).kind)∧RW9 w5 S q room cs E K bs ss cs2 fr2 topF m top w'':=by
 have hh:=h;obtain ⟨csP,csR,fr',I,H⟩:=h;have:=Zks H (x:Int);rw [(Znb W I hx).1] at this;exact this.mono fun e w'' ⟨e1,b⟩=>⟨e1,hh.grow b⟩
theorem Ydh (W:Wf cs []) (h5:room≤5000) {x:Nat} (hx:x=0∨0<cc cs (x-1)) (h:RW9 w5 S q room cs E K bs ss cs2 fr2 topF m top w'):Kc 142 #[.pointer (some ⟨q,0,none⟩),.int .i64 (x:Int)] w' fun e w''=>e=.returned (.agg (B (sdC cs x).key))∧RW9 w5 S q room cs E K bs ss cs2 fr2 topF m top w'':=by
 have hh:=h;obtain ⟨csP,csR,fr',I,H⟩:=h;have:=Zwc H h5 (x:Int);rw [(Znb W I hx).2.1] at this;exact this.mono fun e w'' ⟨e1,b⟩=>⟨e1,hh.grow b⟩
theorem Zyz (V:Hr w5 S w' q room cs fr) (h5:room≤5000) (hbo:BesOk cs E K ss) (hroom:noc cs+258≤room) (hct:∀i,cc cs i+257<1073741824) (hK:Key K) (hu:Reads w' u bs) (hl:bs.length≤1024) (ok:CeOk (lfC (lfD K (vaD bs)) K v' bs)) (hz:Rz K ss (tkC (holdM cs ss) fr (1,lfC (lfD K (vaD bs)) K v' bs)) fr.dropLast (tkH (holdM cs ss) fr) cs2 fr2 topF):Kc 140 #[.pointer (some ⟨q,0,none⟩),.agg (B K),u] w' fun e w''=>∃t:Nat,e=.returned (.tuple #[.int .i64 (t:Int),.int .i64 0])∧RW9 w5 S q room cs E K bs ss cs2 fr2 topF ss.length t w'':=by
 have W:=V.wf;have hm:=Yat W ss.length ss rfl (Zdk hbo);have lag0:=Lag.start hm (Zdk hbo);have hbs:Bytes bs:=by obtain ⟨_,_,_,_,_,hb,_⟩:=hu;exact hb
 have I:=V.inv;have IH:Inv room ((holdM cs ss).map pl) fr:=by
  refine ⟨I.r1,I.r2,by rw [List.length_map,hm.len];exact I.lenC,I.nod,fun s hs=>?_,?_,fun i=>?_⟩
  ·obtain ⟨a,b,c⟩:=I.free s hs;rw [List.length_map] at b;rw [Zae] at c;refine ⟨a,by rw [List.length_map,hm.len];exact b,?_⟩;rw [Zae,hm.cc,c];have:ss.count (s-1+1)=0:=by
    apply List.count_eq_zero.2;intro hx;rcases Zdk hbo _ hx with e | e
    ·omega
    ·rw [Nat.add_sub_cancel,c] at e;omega
   omega
  ·have h1:=I.sum;have h2:=hm.noc;rw [List.length_map] at h1 ⊢;unfold noc at h2;rw [hm.len];omega
  ·rw [Zae,hm.cc];have h2:=List.count_le_length (l:=ss) (a:=i+1);have h3:=hbo.len;have h4:=hct i;omega
 have hF:=Zcw IH;have full: ¬Full room cs fr:=fun f=>by
  have h1:=I.sum;rw [f.1,List.length_map] at h1;have:=f.2;unfold noc at hroom;simp at h1;omega
 refine (Yew V h5 K u v' bs hu hK hl full ok).mono ?_;rintro e w'' ⟨rfl,k⟩;refine ⟨_,rfl,_,_,_,⟨?_,?_,?_,Zvt IH (fun f=>full ((lag0.full room).2 f)) (lfC (lfD K (vaD bs)) K v' bs)⟩,k⟩
 ·rw [List.take_length,lag0.tk];exact hz
 ·rw [lag0.tk];exact Zoy W hbo hm hF v' hbs hl ok
 ·rw [List.take_length];exact lag0.fill hF (by show (0:Nat)<1;omega)
theorem Zuc (h:RW9 w5 S q room cs E K bs ss cs2 fr2 topF 0 top w'):top=topF∧Hr w5 S w' q room cs2 fr2∧RzI cs E K bs ss 0 cs2 topF:=by
 obtain ⟨csP,csR,fr',I,H⟩:=h;have hz:=I.rz;have hl:=I.lag;rw [List.take_zero] at hz hl;obtain ⟨rfl,rfl,rfl⟩:=Ygk hz;obtain rfl:=hl.end;exact ⟨rfl,H,I.ri⟩
end
end Go.Proofs.YtlclabbnpjobgaaGreatDoor
namespace Go.Proofs.YtlclabbnpjobgaaGreatDoor
variable {S fr fr':List Nat}
variable {T:Tre}
variable {cs:Lz}
variable {q room:Nat}
variable {u v':Value}
variable {w w0:World}
set_option maxRecDepth 20000
open Go.RowKit
def SRow (w:World) (g:Nat) (ss:List ByteArray):Prop:=w.heap[g]?=some (.cells (ss.map Value.string).toArray 9 (0,0))
structure Lists (base gl off n:Nat) (V:Nat→Value) (Z S:Nat→Lq) (w:World):Prop where
 cell:∀i,i<n→w.cell? ⟨gl,off+i,none⟩=some (V i)
 own:∀i,i<n→Own base w (V i) (Z i) (S i)
 apart:∀i k,i<n→k<n→i≠k→∀g,(V i).ownBlock=some g→(V k).ownBlock≠some g
 far:∀i,i<n→(V i).ownBlock≠some gl
def txt (Z S:Nat→Lq) (k:Nat):ByteArray:=strOfNums (Z k++S k)
end Go.Proofs.YtlclabbnpjobgaaGreatDoor
namespace Go.Proofs.YtlclabbnpjobgaaGreatDoor
variable {S fr fr':List Nat}
variable {T:Tre}
variable {cs:Lz}
variable {q room:Nat}
variable {u v':Value}
variable {w w0:World}
set_option maxRecDepth 20000
open Go.RowKit
def OwnT (base:Nat) (w:World) (v:Value) (zs sp:Lq):Prop:=
 Bytes zs∧Bytes sp∧zs.length+sp.length≤maxLen∧
 ((v=.slice none 0 0∧zs=[]∧sp=[])∨∃g t rest,base≤g∧v=.slice (some ⟨g,0,none⟩) zs.length (zs.length+sp.length)∧Blk w g t (B (zs++sp++rest)))
structure ListsT (base gl off n:Nat) (V:Nat→Value) (Z S:Nat→Lq) (w:World):Prop where
 cell:∀i,i<n→w.cell? ⟨gl,off+i,none⟩=some (V i)
 own:∀i,i<n→OwnT base w (V i) (Z i) (S i)
 apart:∀i k,i<n→k<n→i≠k→∀g,(V i).ownBlock=some g→(V k).ownBlock≠some g
 far:∀i,i<n→(V i).ownBlock≠some gl
end Go.Proofs.YtlclabbnpjobgaaGreatDoor
