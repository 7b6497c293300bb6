/- The document's examples that every law asks (awake), as a contract. -/
import Derived.Test.YtgfdgjkbcdmboaaGreatDoorDs33
import Derived.Deep.Upon
namespace Go.Proofs.YtgfdgjkbcdmboaaGreatDoor
variable {E:List Ent}
variable {K:Lq}
variable {S S0 fr pend:List Nat}
variable {base c f g gs h n room:Nat}
variable {cs:Lz}
variable {mk:Bool}
variable {v:Value}
variable {w w0:World}
variable {xs:List Value}
set_option maxHeartbeats 4000000
set_option maxRecDepth 20000
open Go.RowKit
def kyB (b:Int):Lq:=b::List.replicate 31 0
theorem Ykb (i:Nat) (p:Nat×Ce):con i p≤2:=by
 unfold con;split
 ·split <;> split <;> omega
 ·omega
theorem Ylc (cs:Lz) (i:Nat):ns cs i≤2 * cs.length:=by
 induction cs with
 | nil=>simp [ns]
 | cons p r ih=>
  have h:=Ykb i p;simp only [ns,List.map_cons,List.sum_cons,List.length_cons] at ih ⊢;omega
theorem Wf.ccLe (W:Wf cs []) (i b:Nat) (h:Go.Proofs.YtgfdgjkbcdmboaaGreatDoor.own cs [] i≤b):cc cs i≤2 * cs.length+b:=by
 have h1:=W.own i;have h2:=W.ab i;have h3:=Ylc cs i;rw [List.count_nil] at h1;omega
structure Rt (cs:Lz) (h:Nat) (T:Tre):Prop where
 tree:IsT cs h T
 dp:(sdC cs h).kind=2→(sdC cs h).dp=0
 own:h=0∨0<own cs [] (h-1)
theorem Rt.root {T:Tre} (r:Rt cs h T):vRt true (cot cs h) (cat cs h) h=0:=by
 unfold vRt;rw [if_pos rfl]
 by_cases h0:(h:Int)=0
 ·rw [if_pos h0]
 ·rw [if_neg h0];rcases r.tree.occ with e | ⟨e1,e2⟩
  ·exact absurd (by omega) h0
  ·have hc:cot cs (h:Int)=cc cs (h-1):=by rw [cot,if_pos (by omega),show ((h:Int)-1).toNat=h-1 by omega]
   rw [hc,if_neg (by omega)];have hd:=r.dp;rw [← Zy] at hd;unfold vDp;rw [if_pos rfl]
   by_cases k:(cat cs (h:Int)).kind=2
   ·rw [if_pos k,hd k];rfl
   ·rw [if_neg k];rfl
theorem Rt.refuse {T:Tre} (r:Rt cs h T) {n:Nat} (hn:n≤1024):vRf true (cot cs h) (cat cs h) h n=0:=by
 unfold vRf;rw [if_pos rfl,if_neg (by omega)];unfold vAh;rw [if_pos r.root,if_neg];rintro ⟨h0,q⟩;have h1:h≠0:=fun e=>h0 (by omega)
 have ho:=r.own.resolve_left h1;have hc:cot cs (h:Int)=cc cs (h-1):=by rw [cot,if_pos (by omega),show ((h:Int)-1).toNat=h-1 by omega]
 rw [hc,Zy,sdC,if_neg h1] at q;unfold Go.Proofs.YtgfdgjkbcdmboaaGreatDoor.own at ho;rw [List.count_nil] at ho;omega
theorem Rt.zero (cs:Lz):Rt cs 0 .emp:=⟨rfl,fun k=>absurd k (by show ¬zc.kind=2;decide),.inl rfl⟩
def upE (E:List Ent) (K bs:Lq):List Ent:=(K,bs)::E.filter fun e=>!(e.1 == K)
def costN (T:Tre) (K bs:Lq) (ss:List Nat):Nat:=if T.efin K=[(K,bs)] then 0 else 1+ss.length
structure PaIs (cs:Lz) (fr:List Nat) (T:Tre) (h:Nat) (K bs:Lq) (ss:List Nat) (top:Nat) (cs':Lz) (fr':List Nat) (T':Tre):Prop where
 rt:Rt cs' top T'
 ents:T'.ents.Perm (upE T.ents K bs)
 pos:1≤top
 own:∀i,own cs' [] i+(if h=i+1 then 1 else 0)=own cs [] i+(if top=i+1 then 1 else 0)
 keep:∀x X,IsT cs x X→(x=0∨0<cc cs' (x-1))→IsT cs' x X
 noc:noc cs'≤noc cs+costN T K bs ss
 same:T.efin K=[(K,bs)]→top=h∧cs'=cs∧fr'=fr
 just:h=0∨h∈ss→Go.Proofs.YtgfdgjkbcdmboaaGreatDoor.noc cs'=Go.Proofs.YtgfdgjkbcdmboaaGreatDoor.noc cs+costN T K bs ss
 new:T.efin K≠[(K,bs)]→cc cs (top-1)=0
 len:cs'.length≤cs.length+costN T K bs ss
def PaPost (w0:World) (S:List Nat) (g gs room:Nat) (cs:Lz) (fr:List Nat) (T:Tre) (h:Nat) (K bs:Lq) (ss:List Nat) (e:Ending) (w':World):Prop:=
 ∃(top:Nat) (cs':Lz) (fr':List Nat) (T':Tre),e=.returned (.tuple #[.int .i64 (top:Int),.int .i64 0])∧PaIs cs fr T h K bs ss top cs' fr' T'∧Hs w0 S w' g gs room cs' fr'
theorem Zyr {T:Tre} (hT:IsT cs h T) {K bs:Lq} (hs:T.efin K=[(K,bs)]):h≠0:=fun e=>by
 subst e;cases T with
 | emp=>simp [Tre.efin] at hs
 | lf _ _=>have:=hT.1;omega
 | nd _ _ _ _ _=>have:=hT.1;omega
theorem Ydh (H:Hs w0 S w g gs room cs fr) {h:Nat} {T:Tre} (r:Rt cs h T) {K:Lq} (hK:Key K) {u:Value} {bs:Lq} (hu:Reads w u bs) (hl:bs.length≤1024) (hb:∀i,own cs [] i≤1000000) {ss:List Nat} (hss:BesIs K T h ss) (h256:ss.length≤256):
  Kc 152 #[.pointer (some ⟨g,0,none⟩),.int .i64 (h:Int),.agg (B K),u] w fun e w'=>e=.returned (.tuple #[.int .i64 (costN T K bs ss:Int),.int .i64 0])∧Kb w w':=by
 by_cases hsm:T.efin K=[(K,bs)]
 ·rw [costN,if_pos hsm];exact Zzg H h T r.tree K hK u bs hu (r.refuse hl) r.root hsm
 ·rw [costN,if_neg hsm];obtain ⟨_,hr1,hr2⟩:=H.sizes;exact Ydf H h T r.tree K hK u bs hu (r.refuse hl) r.root hsm ss hss h256 (fun i=>by have:=H.2.ccLe i 1000000 (hb i);omega)
theorem Yjm (room:Nat) (w:World) (h1:1≤room) (h2:room≤65536):Kc 68 #[.int .i64 (room:Int)] w fun e w'=>∃g gs,e=.returned (.tuple #[.pointer (some ⟨g,0,none⟩),.int .i64 0])∧Hs w [] w' g gs room [] []:=by
 refine (Ygm room w h1 h2).mono ?_;rintro e w' ⟨g,gs,rfl,hg,hgs,s,b⟩;refine ⟨g,gs,rfl,⟨_,_,s,Mod.of_below b _,fun k hk=>.inr ?_⟩,Wf.new⟩;rcases Zcr.1 hk with rfl | hk | ⟨i,hk⟩
 ·exact hg
 ·rcases Zag.1 hk with rfl | hk | hk
  ·exact hgs
  ·cases hk
  ·cases hk
 ·simp only [ce,List.getElem?_nil,Option.getD_none] at hk;cases hk
theorem Zow {ops:Array Oper} {rest:List Oper} {o:Oper} {a:Act} {Q:Exit→Act→World→Prop} (w:World) (hgd:o.guard=none) (s x:Operand)
  (ho:o.op=.call { callee:=.builtin .append,args:= #[s,x],argTypes:= #[30,30]})
  (base:Nat) (v:Value) (n:Nat) (xs:List Nat) (hs:a.eval s=v) (hown:w.ownsRow base 3 1 v n (nats xs))
  (xa:Option Addr) (m c:Nat) (ys:List Nat) (hx:a.eval x=.slice xa m c) (hy:Lst w 3 1 (.slice xa m c) m (nats ys))
  (h63:n+m≤100000) (hbase:base≤w.heap.size)
  (hk:∀b c w',w'.ownsRow base 3 1 (.slice b (n+m) c) (n+m) (nats (xs++ys))→w.grownBy w' v.ownBlock→wpList Tryz.prog ops Q rest (a.put o.dst (.slice b (n+m) c)) w'):wpList Tryz.prog ops Q (o::rest) a w:=by
 have hn:nats (xs++ys)=nats xs++nats ys:=by simp [nats]
 have hyl:(nats ys).length=m * 1:=hy.1;obtain ⟨i,z,hi,hz,hsize,hby,hzs⟩:=Zak;have hsl:∀(v':Value) (w':World),w'.ownsRow base 3 1 v' (n+m) (nats (xs++ys))→∃b c,v'=.slice b (n+m) c:=fun v' w' h=>Zo (Zap h)
 by_cases hm:m=0
 ·subst hm;obtain ⟨va,vc,hv⟩:=Zo (Zap hown);have hys:ys=[]:=by
   rw [Zdd,Nat.zero_mul] at hyl;exact List.eq_nil_of_length_eq_zero hyl
  subst hys;have hvc:n≤vc:=by
   by_cases hn0:0<n
   ·obtain ⟨g',c',e,hc'⟩:=Zbg (Zap hown) hn0;rw [hv] at e;injection e with e1 e2 e3;omega
   ·omega
  refine wpList_plain hgd fun K hK=>?_
  have hr:(Builtin.append_ #[30,30] o.type #[v,.slice xa 0 c]).run Tryz.prog w=.ok v w:=by
   rw [hv];refine run_append_nothing w _ _ _ _ i Tryz.underlying30 hi va n vc hvc _ ?_;cases xa with
   | none=>exact Src.ofNil w Tryz.underlying30 c
   | some p=>exact Src.ofSlice w Tryz.underlying30 p 0 c [] (by simp) (fun j u h=>by simp at h) (fun u h=>by cases h)
  unfold Oper.wp execOp;simp only [ho,resolve,invoke,builtin,Sem.run_bind,Sem.run_pure,Result.andThen_ok,List.map_toArray,List.map_cons,List.map_nil,hs,hx,hr];have:=hk va vc w (by rw [List.append_nil,Nat.add_zero,← hv];exact hown) (World.grownBy.refl _ _);rw [hv];exact hK _ _ this
 ·obtain ⟨g',c',e,_⟩:=Zbg hy (by omega);injection e with e1 e2 e3;subst e1;refine wpList_append_own w hgd s x _ ho base _ i z 1 8 Tryz.underlying30 hi hz hsize hby hzs (by omega) v n (nats xs) hs hown ⟨g',0,none⟩ m c (nats ys) hx hyl (by
   intro j q hq;rw [Addr.add_lit,Nat.zero_add,Zcd hy j (by rw [← hyl];exact (List.getElem?_eq_some_iff.1 hq).1)];exact hq) (by intro u hu;simp only [nats,List.mem_map] at hu;obtain ⟨_,_,rfl⟩:=hu;rfl) (by simp only [maxLen];omega) (by omega) hbase ?_
  intro v' w' h2 h3 _;rw [← hn] at h2;obtain ⟨b,c2,e2⟩:=hsl v' w' h2;subst e2;exact hk _ _ _ h2 h3
theorem Ydc {ct:Int→Nat} {ca:Int→Ce} (V:Vw w v mk ct ca) (h:Int) (K:Lq) (e0:Int) (he:vAh mk (ct h) (ca h) h=e0) (h0:e0≠0):Kc 14 #[v,.int .i64 h,.agg (B K)] w fun e w'=>e=.returned (.tuple #[.int .i64 0,.bool false,.int .i64 e0])∧Kb w w':=by
 have HAH:Hid (Kr w 42 #[v,.int .i64 h] (.int .i64 e0)):=fun w' hb=>by
  have:=Zbt (V.grow hb) h;rwa [he] at this
 clear V he;go_enter Tryz.func14,Tryz.ntmps14
 go_wp2_with (first
  |((with_reducible refine Zl 5 ?_);refine Zc _ rfl _ _ rfl _ rfl ?_;intro w1 b5 hg5 hl5 B5 q5;have HQ5:=Za q5;clear hg5 hl5 B5 q5)
  |(go_at_call 42;refine (HAH.out _ HQ5.out).mono ?_;rintro e w2 ⟨rfl,b2⟩;have HQ2:=Za (Zb HQ5.out b2);clear b2))
 go_ret3;exact ⟨rfl,HQ2.out⟩
theorem Zza {ct:Int→Nat} {ca:Int→Ce} (V:Vw w v mk ct ca) (h:Int) (K:Lq) (e0:Int) (he:vAh mk (ct h) (ca h) h=e0) (h0:e0≠0):Kc 12 #[v,.int .i64 h,.agg (B K)] w fun e w'=>e=.returned (.tuple #[.int .i64 0,.int .i64 e0])∧Kb w w':=by
 have HAH:Hid (Kr w 42 #[v,.int .i64 h] (.int .i64 e0)):=fun w' hb=>by
  have:=Zbt (V.grow hb) h;rwa [he] at this
 clear V he;go_enter Tryz.func12,Tryz.ntmps12
 go_wp2_with (first
  |((with_reducible refine Zl 5 ?_);refine Zc _ rfl _ _ rfl _ rfl ?_;intro w1 b5 hg5 hl5 B5 q5;have HQ5:=Za q5;clear hg5 hl5 B5 q5)
  |(go_at_call 42;refine (HAH.out _ HQ5.out).mono ?_;rintro e w2 ⟨rfl,b2⟩;have HQ2:=Za (Zb HQ5.out b2);clear b2))
 go_ret2;exact ⟨rfl,HQ2.out⟩
theorem Zyw (H:Hs w0 S w g gs room cs fr) (h:Int) (K:Lq) (he:vAh true (cot cs h) (cat cs h) h=0) (hf:room<noc cs+258):Kc 14 #[.pointer (some ⟨g,0,none⟩),.int .i64 h,.agg (B K)] w fun e w'=>e=.returned (.tuple #[.int .i64 0,.bool false,.int .i64 9])∧Kb w w':=by
 have HAH:Hid (Kr w 42 #[.pointer (some ⟨g,0,none⟩),.int .i64 h] (.int .i64 0)):=fun w' hb=>by
  have:=Zbt (H.vw.grow hb) h;rwa [he] at this
 have HFT:Hid (Kr w 50 #[.pointer (some ⟨g,0,none⟩),.int .i64 1] (.bool false)):=fun w' hb=>by
  have:=Zdf (H.grow hb) 1;rwa [show fitsN (noc cs) room 1=false by simp [fitsN];omega] at this
 clear H he hf;go_enter Tryz.func14,Tryz.ntmps14
 go_wp2_with (first
  |((with_reducible refine Zl 5 ?_);refine Zc _ rfl _ _ rfl _ rfl ?_;intro w1 b5 hg5 hl5 B5 q5;have HQ5:=Za q5;clear hg5 hl5 B5 q5)
  |(go_at_call 42;refine (HAH.out _ HQ5.out).mono ?_;rintro e w2 ⟨rfl,b2⟩;have HQ2:=Za (Zb HQ5.out b2);clear b2)
  |(go_at_call 50;refine (HFT.out _ HQ2.out).mono ?_;rintro e w3 ⟨rfl,b3⟩;have HQ3:=Za (Zb HQ2.out b3);clear b3))
 go_ret3;exact ⟨rfl,HQ3.out⟩
theorem Zyt (H:Hs w0 S w g gs room cs fr) (h:Nat) (T:Tre) (hT:IsT cs h T) (K:Lq) (hK:Key K) (he:vAh true (cot cs h) (cat cs h) h=0) (hr:vRt true (cot cs h) (cat cs h) h=0) (hf:noc cs+258≤room) (hn:(fnd (T.efin K) K).2=false):Kc 14 #[.pointer (some ⟨g,0,none⟩),.int .i64 (h:Int),.agg (B K)] w fun e w'=>e=.returned (.tuple #[.int .i64 (h:Int),.bool false,.int .i64 0])∧Kb w w':=by
 have HAH:Hid (Kr w 42 #[.pointer (some ⟨g,0,none⟩),.int .i64 (h:Int)] (.int .i64 0)):=fun w' hb=>by
  have:=Zbt (H.vw.grow hb) (h:Int);rwa [he] at this
 have HFT:Hid (Kr w 50 #[.pointer (some ⟨g,0,none⟩),.int .i64 1] (.bool true)):=fun w' hb=>by
  have:=Zdf (H.grow hb) 1;rwa [show fitsN (noc cs) room 1=true by simp [fitsN];omega] at this
 have HPS:Hid ((Tryz.prog.info? 34).map (·.size)=some (B K).size):=by show _=_;rw [Zj,hK.1];exact Zi
 have HFN:Hid (∀w',Kb w w'→Kc 43 #[.pointer (some ⟨g,0,none⟩),.int .i64 (h:Int),.agg (B K)] w' fun e w''=>∃a n c,e=.returned (.tuple #[.slice a n c,.bool false])∧Below w'.heap.size w' w''):=fun w' hb=>by
  refine (Zjr (H.vw.grow hb) H.2 h T hT K hK hr).mono ?_;rintro e w'' ⟨a,c,rfl,_,b⟩;exact ⟨a,_,c,by rw [hn],b⟩
 generalize (h:Int)=hh at HAH HFN ⊢;clear H he hf hT hK hr hn;go_enter Tryz.func14,Tryz.ntmps14
 go_wp2_with (first
  |((with_reducible refine Zl 5 ?_);refine Zc _ rfl _ _ rfl _ rfl ?_;intro w1 b5 hg5 hl5 B5 q5;have HB5:=Za B5;have HQ5:=Za q5;have HG5:=Za hg5;clear hg5 hl5 B5 q5)
  |(go_at_call 42;refine (HAH.out _ HQ5.out).mono ?_;rintro e w2 ⟨rfl,b2⟩;have HQ2:=Za (Zb HQ5.out b2);have HB2:=Za (HB5.out.grow b2);clear b2)
  |(go_at_call 50;refine (HFT.out _ HQ2.out).mono ?_;rintro e w3 ⟨rfl,b3⟩;have HQ3:=Za (Zb HQ2.out b3);have HB3:=Za (HB2.out.grow b3);clear b3)
  |((with_reducible refine Zk 29 5 ?_);refine Zd _ rfl _ _ rfl b5 _ rfl HB3.out _ _ Tryz.underlying34 HPS.out ?_)
  |(go_at_call 43;refine (HFN.out _ HQ3.out).mono ?_;rintro e w4 ⟨fa,fn,fc,rfl,b4⟩;have HQ4:=Za (Zb HQ3.out b4);clear b4))
 go_ret3;exact ⟨rfl,HQ4.out⟩
theorem Zun (H:Hs w0 S w g gs room cs fr) (h:Nat) (T:Tre) (hT:IsT cs h T) (K:Lq) (hK:Key K) (he:vAh true (cot cs h) (cat cs h) h=0) (hr:vRt true (cot cs h) (cat cs h) h=0) (hn:(fnd (T.efin K) K).2=false):Kc 12 #[.pointer (some ⟨g,0,none⟩),.int .i64 (h:Int),.agg (B K)] w fun e w'=>e=.returned (.tuple #[.int .i64 0,.int .i64 0])∧Kb w w':=by
 have HAH:Hid (Kr w 42 #[.pointer (some ⟨g,0,none⟩),.int .i64 (h:Int)] (.int .i64 0)):=fun w' hb=>by
  have:=Zbt (H.vw.grow hb) (h:Int);rwa [he] at this
 have HPS:Hid ((Tryz.prog.info? 34).map (·.size)=some (B K).size):=by show _=_;rw [Zj,hK.1];exact Zi
 have HFN:Hid (∀w',Kb w w'→Kc 43 #[.pointer (some ⟨g,0,none⟩),.int .i64 (h:Int),.agg (B K)] w' fun e w''=>∃a n c,e=.returned (.tuple #[.slice a n c,.bool false])∧Below w'.heap.size w' w''):=fun w' hb=>by
  refine (Zjr (H.vw.grow hb) H.2 h T hT K hK hr).mono ?_;rintro e w'' ⟨a,c,rfl,_,b⟩;exact ⟨a,_,c,by rw [hn],b⟩
 generalize (h:Int)=hh at HAH HFN ⊢;clear H he hT hK hr hn;go_enter Tryz.func12,Tryz.ntmps12
 go_wp2_with (first
  |((with_reducible refine Zl 5 ?_);refine Zc _ rfl _ _ rfl _ rfl ?_;intro w1 b5 hg5 hl5 B5 q5;have HB5:=Za B5;have HQ5:=Za q5;clear hg5 hl5 B5 q5)
  |(go_at_call 42;refine (HAH.out _ HQ5.out).mono ?_;rintro e w2 ⟨rfl,b2⟩;have HQ2:=Za (Zb HQ5.out b2);have HB2:=Za (HB5.out.grow b2);clear b2)
  |((with_reducible refine Zk 22 5 ?_);refine Zd _ rfl _ _ rfl b5 _ rfl HB2.out _ _ Tryz.underlying34 HPS.out ?_)
  |(go_at_call 43;refine (HFN.out _ HQ2.out).mono ?_;rintro e w4 ⟨fa,fn,fc,rfl,b4⟩;have HQ4:=Za (Zb HQ2.out b4);clear b4))
 go_ret2;exact ⟨rfl,HQ4.out⟩
theorem Ygg {a:Option Addr} (h:w.ownsRow base 3 1 (.slice a n c) n xs):n≤c:=by
 by_cases hn:0<n
 ·obtain ⟨g,c',e,hc⟩:=Zbg (Zap h) hn;injection e with _ _ e3;omega
 ·omega
def shF (cs:Lz) (K:Lq) (T:Tre):Nat:=(shk (fun h=>(sdC cs h).kind) (T.oth K) (T.oth K).length 0).2
def shN (cs:Lz) (K:Lq) (T:Tre):Nat:=(shk (fun h=>(sdC cs h).kind) (T.oth K) (T.oth K).length 0).1
def shS (cs:Lz) (K:Lq) (T:Tre):List Nat:=(T.oth K).take (shN cs K T)
theorem Zpd (cs:Lz) (K:Lq) (T:Tre):(shS cs K T).length=shN cs K T:=by
 have:=Zkn (fun h=>(sdC cs h).kind) (T.oth K) (T.oth K).length 0;unfold shS;rw [List.length_take];unfold shN;omega
theorem Zsh (V:Vw w v true (cot cs) (cat cs)) (W:Wf cs pend) (h:Nat) (T:Tre) (hT:IsT cs h T) (K:Lq) (hK:Key K) (hr:vRt true (cot cs h) (cat cs h) h=0) (hy:(fnd (T.efin K) K).2=true):
  (∀w',Kb w w'→Kc 43 #[v,.int .i64 (h:Int),.agg (B K)] w' fun e w''=>∃a c,e=.returned (.tuple #[.slice a (T.hs K h).length c,.bool true])∧((T.hs K h).length≤c∧Ints9 w'' a (T.hs K h))∧Below w'.heap.size w' w'')∧
  (∀w' a c,Kb w w'→(T.hs K h).length≤c∧Ints9 w' a (T.hs K h)→Kc 44 #[v,.slice a (T.hs K h).length c,.agg (B K)] w' fun e w''=>e=.returned (.tuple #[.slice a (shN cs K T) c,.int .i64 (shF cs K T:Int)])∧Below w'.heap.size w' w'')∧
  (∀w' a c,Kb w w'→(T.hs K h).length≤c∧Ints9 w' a (T.hs K h)→Kc 51 #[v,.slice a (shN cs K T) c,.agg (B K)] w' fun e w''=>∃a' c',e=.returned (.slice a' (shN cs K T) c')∧w''.ownsRow w'.heap.size 3 1 (.slice a' (shN cs K T) c') (shN cs K T) (nats (shS cs K T))∧Below w'.heap.size w' w'')∧(T.hs K h).length≤256:=by
 have hrd:=Zpi hT hr;have h256:(T.hs K h).length≤256:=by
  have:=(Zcu W K T h 0 hT hrd (by omega)).2.2;rw [Tre.hs_oth];omega
 have hol:=Tre.hs_oth K T h;refine ⟨fun w' hb=>?_,fun w' a c hb hi=>?_,fun w' a c hb hi=>?_,h256⟩
 ·refine (Zjr (V.grow hb) W h T hT K hK hr).mono ?_;rintro e w'' ⟨a,c,rfl,o,b⟩;exact ⟨a,c,by rw [hy],⟨Ygg o,Zee (Zap o) rfl⟩,b⟩
 ·have:=Zti (w:=w') (v:=v) (fun h=>(sdC cs h).kind) K hK a (T.hs K h).length c (T.oth K) h256 hi.1 (fun w'' o hb2=>by
   have:=Zfl ((V.grow hb).grow hb2) (o:Int);rwa [Zy] at this) (Zro (V.grow hb) W h T hT K hK hrd hi.2)
  rw [hol] at this ⊢;exact this
 ·have hle:=Zkn (fun h=>(sdC cs h).kind) (T.oth K) (T.oth K).length 0;have hle2:shN cs K T≤(T.hs K h).length:=by rw [hol];exact hle
  have:=Zqm (w:=w') (v:=v) K hK a (shN cs K T) c (shS cs K T) (Zpd cs K T) (by omega) (fun k hk=>by
   obtain ⟨x,o,a1,a2,a3⟩:=Zro (V.grow hb) W h T hT K hK hrd hi.2 k (by omega);exact ⟨x,o,a1,by rw [shS,List.getElem?_take_of_lt hk];exact a2,a3⟩)
  refine this.mono ?_;rintro e w'' ⟨a',c',rfl,o,b⟩;rw [Zpd] at o ⊢;exact ⟨a',c',rfl,o,b⟩
theorem Zyz (H:Hs w0 S w g gs room cs fr) (h:Nat) (T:Tre) (hT:IsT cs h T) (K:Lq) (hK:Key K) (he:vAh true (cot cs h) (cat cs h) h=0) (hr:vRt true (cot cs h) (cat cs h) h=0) (hy:(fnd (T.efin K) K).2=true):Kc 12 #[.pointer (some ⟨g,0,none⟩),.int .i64 (h:Int),.agg (B K)] w fun e w'=>e=.returned (.tuple #[.int .i64 (shN cs K T:Int),.int .i64 0])∧Kb w w':=by
 have HAH:Hid (Kr w 42 #[.pointer (some ⟨g,0,none⟩),.int .i64 (h:Int)] (.int .i64 0)):=fun w' hb=>by
  have:=Zbt (H.vw.grow hb) (h:Int);rwa [he] at this
 have HPS:Hid ((Tryz.prog.info? 34).map (·.size)=some (B K).size):=by show _=_;rw [Zj,hK.1];exact Zi
 obtain ⟨q1,q2,_,_⟩:=Zsh H.vw H.2 h T hT K hK hr hy;have HFN:=Za q1;have HSH:=Za q2;generalize (h:Int)=hh at HAH HFN ⊢;generalize T.hs K h=hs at HFN HSH;generalize hs.length=hn at HFN HSH;generalize shN cs K T=sn at HSH ⊢;generalize (shF cs K T:Int)=fy at HSH;clear H he hT hK hr hy q1 q2;go_enter Tryz.func12,Tryz.ntmps12
 go_wp2_with (first
  |((with_reducible refine Zl 5 ?_);refine Zc _ rfl _ _ rfl _ rfl ?_;intro w1 b5 hg5 hl5 B5 q5;have HB5:=Za B5;have HQ5:=Za q5;clear hg5 hl5 B5 q5)
  |(go_at_call 42;refine (HAH.out _ HQ5.out).mono ?_;rintro e w2 ⟨rfl,b2⟩;have HQ2:=Za (Zb HQ5.out b2);have HB2:=Za (HB5.out.grow b2);clear b2)
  |((with_reducible refine Zk 22 5 ?_);refine Zd _ rfl _ _ rfl b5 _ rfl HB2.out _ _ Tryz.underlying34 HPS.out ?_)
  |(go_at_call 43;refine (HFN.out _ HQ2.out).mono ?_;rintro e w4 ⟨fa,fc,rfl,i4,b4⟩;have HI4:=Za i4;have HQ4:=Za (Zb HQ2.out b4);have HB4:=Za (HB2.out.grow b4);clear b4 i4)
  |((with_reducible refine Zk 31 5 ?_);refine Zd _ rfl _ _ rfl b5 _ rfl HB4.out _ _ Tryz.underlying34 HPS.out ?_)
  |(go_at_call 44;refine (HSH.out _ _ _ HQ4.out HI4.out).mono ?_;rintro e w5 ⟨rfl,b5⟩;have HQ6:=Za (Zb HQ4.out b5);clear b5))
 go_ret2;exact ⟨rfl,HQ6.out⟩
def DropTo (cs:Lz) (fr:List Nat) (root:Nat) (K:Lq) (f:Nat) (ss:List Nat) (top:Nat) (cs':Lz) (fr':List Nat):Prop:=
 ∃(cs2:Lz) (fr2:List Nat) (n:Nat),Rz K ss (holdM cs (f::ss)) fr f cs2 fr2 top∧Run cs2 fr2 [root] cs' fr' n
def DpPost (w0:World) (S:List Nat) (g gs room:Nat) (cs:Lz) (fr:List Nat) (E:List Ent) (root:Nat) (K:Lq) (f:Nat) (ss:List Nat) (e:Ending) (w':World):Prop:=
 ∃(top:Nat) (cs':Lz) (fr':List Nat),e=.returned (.tuple #[.int .i64 (top:Int),.bool true,.int .i64 0])∧DropTo cs fr root K f ss top cs' fr'∧DropOk cs E K root top ss cs'∧Hs w0 S w' g gs room cs' fr'
theorem Zgs {ss:List Nat} (b:DesOk cs E K f ss):∀x∈f::ss,x=0∨0<cc cs (x-1):=fun x hx=>by
 rcases List.mem_cons.1 hx with hx | hx
 ·subst hx;obtain ⟨U,u1,_⟩:=b.low;rcases u1.occ with q | q
  ·exact .inl q
  ·exact .inr q.2
 ·obtain ⟨d,hd,e⟩:=List.getElem_of_mem hx;obtain ⟨V,v1,_⟩:=b.side d hd;have:ss.getD d 0=x:=by rw [List.getD_eq_getElem?_getD,List.getElem?_eq_getElem hd];exact e
  rw [this] at v1;rcases v1.occ with q | q
  ·exact .inl q
  ·exact .inr q.2
theorem Zjn {l:List Ent} (h:(fnd l K).2=true):∃b,(K,b)∈l:=by
 match l,h with
 | [],h=>simp [fnd] at h
 | [e],h=>
  simp only [fnd] at h;split at h
  ·next q=>exact ⟨e.2,by rw [← q];simp⟩
  ·cases h
 | _::_::_,h=>simp [fnd] at h
theorem Zxi (w:World) (base:Nat) (x:Nat) (y:Int) (hy:y=(x:Int)) (hb:base≤w.heap.size):(w.alloc (.cells #[.int .i64 y] 3)).ownsRow base 3 1 (.slice (some ⟨w.heap.size,0,none⟩) 1 1) 1 (nats [x]):=⟨by simp [nats],.inr ⟨w.heap.size,1,_,rfl,hb,Blk.new _ _ _,by omega,by decide,by simp,by simp [nats,hy]⟩⟩
theorem Ydb (H0:Hs w0 S0 w g gs room cs fr) (h:Nat) (T:Tre) (hT:IsT cs h T) (K:Lq) (hK:Key K) (hL0:Kq S0 w0 Laid) (he:vAh true (cot cs h) (cat cs h) h=0) (hr:vRt true (cot cs h) (cat cs h) h=0) (ho:0<own cs [] (h-1)) (h1:1≤h) (hf:noc cs+258≤room) (hy:(fnd (T.efin K) K).2=true) (hbo:DesOk cs T.ents K (shF cs K T) (shS cs K T)) (hct:∀i,cc cs i+258<1073741824):
  Kc 14 #[.pointer (some ⟨g,0,none⟩),.int .i64 (h:Int),.agg (B K)] w (DpPost w0 S0 g gs room cs fr T.ents h K (shF cs K T) (shS cs K T)):=by
 have h256:=hbo.len;obtain ⟨S,H,hN,hkq,hS,hbk⟩:=H0.from
 have hL:=hkq _ hL0;have hW:=H.2;have hmk:=Zqh hW _ (shF cs K T::shS cs K T) rfl (Zgs hbo);obtain ⟨q1,q2,q3,h256w⟩:=Zsh H.vw H.2 h T hT K hK hr hy;have HFN:=Za q1;have HSH:=Za q2;have HBE:=Za q3;have hct2:∀q,cot cs q<1073741824:=fun q=>by
  unfold cot;split
  ·have:=hct (q-1).toNat;omega
  ·omega
 obtain ⟨b,hb⟩:=Zjn hy;have hmem:=Zce K T _ hb;have hsl:=Zpd cs K T;generalize shF cs K T=f at *;generalize shS cs K T=ss at *;generalize shN cs K T=sn at *;have HCN:Hid (∀w' a1 a2 c1 c2,Kb w w'→Ints9 w' a1 (T.hs K h)→w'.ownsRow w.heap.size 3 1 (.slice a2 sn c2) sn (nats ss)→Kc 52 #[.pointer (some ⟨g,0,none⟩),.slice a1 (T.hs K h).length c1,.slice a2 sn c2,.int .i64 (f:Int)] w' fun e w''=>e=.returned (.bool true)∧Below w'.heap.size w' w''):=fun w' a1 a2 c1 c2 hb i1 o2=>Zkh (H.vw.grow hb) hct2 a1 a2 _ _ c1 c2 _ _ i1 (Zee (Zap o2) hsl.symm) rfl hsl.symm h256w (f:Int)
 have HHA:Hid (∀w4 a c,Kb w w4→w4.ownsRow w.heap.size 3 1 (.slice a (1+sn) c) (1+sn) (nats (f::ss))→Kc 53 #[.pointer (some ⟨g,0,none⟩),.slice a (1+sn) c] w4 fun e w5=>e=.returned (.slice none 0 0)∧Hs w4 S w5 g gs room (holdM cs (f::ss)) fr):=fun w4 a c hb o=>Zhz (H.rebase hb) a _ c (f::ss) (Zdr o (by rw [List.length_cons];omega) (fun k hk hm=>by have:=(o.lt k hk).1;have:=hS k hm;omega)) (by rw [List.length_cons];omega) (by omega) (Zgs hbo) (fun _ i=>by have:=hct i;omega)
 have HRA:Hid (∀w4 a c w5,Kb w w4→w4.ownsRow w.heap.size 3 1 (.slice a sn c) sn (nats ss)→Hs w4 S w5 g gs room (holdM cs (f::ss)) fr→Kc 54 #[.pointer (some ⟨g,0,none⟩),.agg (B K),.int .i64 (f:Int),.slice a sn c] w5 fun e w6=>∃top:Nat,e=.returned (.int .i64 (top:Int))∧∃cs2 fr2,Rz K ss (holdM cs (f::ss)) fr f cs2 fr2 top∧DzI cs T.ents K f ss 0 cs2 top∧Hs w S w6 g gs room cs2 fr2):=fun w4 a c w5 hb o h5=>by
  have i4:Kq S w4 (fun w'=>Ints9 w' a ss):=Zdr o hsl.symm (fun k hk hm=>by have:=(o.lt k hk).1;have:=hS k hm;omega);obtain ⟨S5,H5,hN5,hkq5,hS5,hbk5⟩:=h5.from
  refine (Zum H5 hS5 hW hK hbo hmk hf a _ c hsl.symm (hkq5 _ i4) (hkq5 _ (hL.grow hb))).mono ?_;rintro e w6 ⟨top,cs2,fr2,rfl,r2,r3,r4⟩;exact ⟨top,rfl,cs2,fr2,r2,r3,Hs.back hb (hbk5 _ _ _ r4)⟩
 have HDR:Hid (∀w6 (top:Nat),(∃cs2 fr2,Rz K ss (holdM cs (f::ss)) fr f cs2 fr2 top∧DzI cs T.ents K f ss 0 cs2 top∧Hs w S w6 g gs room cs2 fr2)→Kc 55 #[.pointer (some ⟨g,0,none⟩),.int .i64 (h:Int)] w6 fun e w7=>∃x y:Int,e=.returned (.tuple #[.int .i64 x,.int .i64 y])∧∃cs' fr',DropTo cs fr h K f ss top cs' fr'∧DropOk cs T.ents K h top ss cs'∧Hs w S w7 g gs room cs' fr'):=fun w6 top ⟨cs2,fr2,r2,r3,r4⟩=>by
  have ho2:0<own cs2 [] (h-1):=by
   have:=r3.own (h-1);rw [List.take_zero,List.count_nil] at this;omega
  have hd:=Zqd r4 (h-1) ho2;rw [show h-1+1=h by omega] at hd;refine hd.mono ?_;rintro e w7 ⟨cs',fr',k,hrun,hst,rfl,h7⟩;exact ⟨_,_,rfl,cs',fr',⟨cs2,fr2,k,r2,hrun⟩,Yhn r3 hT hmem ho h1 hst,h7⟩
 have HH2:Hid (∀w7 (top:Nat),(∃cs' fr',DropTo cs fr h K f ss top cs' fr'∧DropOk cs T.ents K h top ss cs'∧Hs w S w7 g gs room cs' fr')→Kc 53 #[.pointer (some ⟨g,0,none⟩),.slice none 0 0] w7 fun e w8=>e=.returned (.slice none 0 0)∧∃cs' fr',DropTo cs fr h K f ss top cs' fr'∧DropOk cs T.ents K h top ss cs'∧Hs w S w8 g gs room cs' fr'):=fun w7 top ⟨cs',fr',p1,p2,p3⟩=>by
  obtain ⟨S7,H7,hN7,hkq7,hS7,hbk7⟩:=p3.from
  refine (Zhz H7 none 0 0 [] (fun _ _ k hk=>absurd hk (by simp)) rfl (by omega) (fun x hx=>by cases hx) (fun q=>by omega)).mono ?_;rintro e w8 ⟨rfl,h8⟩;exact ⟨rfl,cs',fr',p1,p2,hbk7 _ _ _ h8⟩
 have HAH:Hid (Kr w 42 #[.pointer (some ⟨g,0,none⟩),.int .i64 (h:Int)] (.int .i64 0)):=fun w' hb=>by
  have:=Zbt (H.vw.grow hb) (h:Int);rwa [he] at this
 have HFT:Hid (Kr w 50 #[.pointer (some ⟨g,0,none⟩),.int .i64 1] (.bool true)):=fun w' hb=>by
  have:=Zdf (H.grow hb) 1;rwa [show fitsN (noc cs) room 1=true by simp [fitsN];omega] at this
 have HPS:Hid ((Tryz.prog.info? 34).map (·.size)=some (B K).size):=by show _=_;rw [Zj,hK.1];exact Zi
 have HPost:Hid (∀w8 (top:Nat),(∃cs' fr',DropTo cs fr h K f ss top cs' fr'∧DropOk cs T.ents K h top ss cs'∧Hs w S w8 g gs room cs' fr')→DpPost w0 S0 g gs room cs fr T.ents h K f ss (.returned (.tuple #[.int .i64 (top:Int),.bool true,.int .i64 0])) w8):=fun w8 top ⟨cs',fr',p1,p2,p3⟩=>⟨top,cs',fr',rfl,p1,p2,hbk _ _ _ p3⟩
 have HBK:Hid (∀w4 w5 b6,Kb w w4→w.heap.size≤b6→Blk w4 b6 34 (B K)→Hs w4 S w5 g gs room (holdM cs (f::ss)) fr→Blk w5 b6 34 (B K)):=fun w4 w5 b6 hb hg hB h5=>h5.kq (Kq.blk hB (fun e=>by have:=hS _ e;omega))
 have HONE:Hid (∀z:World,w.heap.size≤z.heap.size→(z.alloc (.cells #[.int .i64 (f:Int)] 3)).ownsRow w.heap.size 3 1 (.slice (some ⟨z.heap.size,0,none⟩) 1 1) 1 (nats [f])):=fun z hz=>Zxi z _ f _ rfl hz
 have HNS:Hid (∀(z:World) b a n c,z.ownsRow b 3 1 (.slice a n c) n (nats ([f]++ss))→z.ownsRow b 3 1 (.slice a n c) n (nats (f::ss))):=fun z b a n c o=>o
 have HSN:Hid (sn≤256):=by show _≤_;omega
 obtain ⟨R7,hR7⟩:∃R7:World→Nat→Prop,R7=fun w7 top=>∃cs' fr',DropTo cs fr h K f ss top cs' fr'∧DropOk cs T.ents K h top ss cs'∧Hs w S w7 g gs room cs' fr':=⟨_,rfl⟩
 obtain ⟨R6,hR6⟩:∃R6:World→Nat→Prop,R6=fun w6 top=>∃cs2 fr2,Rz K ss (holdM cs (f::ss)) fr f cs2 fr2 top∧DzI cs T.ents K f ss 0 cs2 top∧Hs w S w6 g gs room cs2 fr2:=⟨_,rfl⟩
 obtain ⟨R5,hR5⟩:∃R5:World→World→Prop,R5=fun w4 w5=>Hs w4 S w5 g gs room (holdM cs (f::ss)) fr:=⟨_,rfl⟩
 replace HHA:Hid (∀w4 a c,Kb w w4→w4.ownsRow w.heap.size 3 1 (.slice a (1+sn) c) (1+sn) (nats (f::ss))→Kc 53 #[.pointer (some ⟨g,0,none⟩),.slice a (1+sn) c] w4 fun e w5=>e=.returned (.slice none 0 0)∧R5 w4 w5):=by rw [hR5];exact HHA
 replace HRA:Hid (∀w4 a c w5,Kb w w4→w4.ownsRow w.heap.size 3 1 (.slice a sn c) sn (nats ss)→R5 w4 w5→Kc 54 #[.pointer (some ⟨g,0,none⟩),.agg (B K),.int .i64 (f:Int),.slice a sn c] w5 fun e w6=>∃top:Nat,e=.returned (.int .i64 (top:Int))∧R6 w6 top):=by rw [hR5,hR6];exact HRA
 replace HDR:Hid (∀w6 (top:Nat),R6 w6 top→Kc 55 #[.pointer (some ⟨g,0,none⟩),.int .i64 (h:Int)] w6 fun e w7=>∃x y:Int,e=.returned (.tuple #[.int .i64 x,.int .i64 y])∧R7 w7 top):=by rw [hR6,hR7];exact HDR
 replace HH2:Hid (∀w7 (top:Nat),R7 w7 top→Kc 53 #[.pointer (some ⟨g,0,none⟩),.slice none 0 0] w7 fun e w8=>e=.returned (.slice none 0 0)∧R7 w8 top):=by rw [hR7];exact HH2
 replace HPost:Hid (∀w8 (top:Nat),R7 w8 top→DpPost w0 S0 g gs room cs fr T.ents h K f ss (.returned (.tuple #[.int .i64 (top:Int),.bool true,.int .i64 0])) w8):=by rw [hR7];exact HPost
 replace HBK:Hid (∀w4 w5 b6,Kb w w4→w.heap.size≤b6→Blk w4 b6 34 (B K)→R5 w4 w5→Blk w5 b6 34 (B K)):=by rw [hR5];exact HBK
 generalize DpPost w0 S0 g gs room cs fr T.ents h K f ss=P at HPost ⊢;generalize (h:Int)=hh at HFN HAH HDR ⊢;generalize T.hs K h=hs at HFN HSH HBE HCN;generalize hs.length=hn at HFN HSH HBE HCN;obtain ⟨fy,hfy⟩:∃y:Int,y=(f:Int):=⟨_,rfl⟩;rw [← hfy] at HSH HCN HRA HONE;have HFY:=Za hfy;clear hR7 hR6 hR5 H0 H hN hkq hS hbk hW hmk hT hK he hr ho hf hy hbo hct h256 h256w hct2 hsl q1 q2 q3 hb hmem hL hL0 h1 hfy;go_enter Tryz.func14,Tryz.ntmps14
 go_wp2_with (first
  |((with_reducible refine Zl 5 ?_);refine Zc _ rfl _ _ rfl _ rfl ?_;intro w1 b5 hg5 hl5 B5 q5;have HB5:=Za B5;have HQ5:=Za q5;have HG5:=Za hg5;clear hg5 hl5 B5 q5)
  |(go_at_call 42;refine (HAH.out _ HQ5.out).mono ?_;rintro e w2 ⟨rfl,b2⟩;have HQ2:=Za (Zb HQ5.out b2);have HB2:=Za (HB5.out.grow b2);clear b2)
  |(go_at_call 50;refine (HFT.out _ HQ2.out).mono ?_;rintro e w3 ⟨rfl,b3⟩;have HQ3:=Za (Zb HQ2.out b3);have HB3:=Za (HB2.out.grow b3);clear b3)
  |((with_reducible refine Zk 29 5 ?_);refine Zd _ rfl _ _ rfl b5 _ rfl HB3.out _ _ Tryz.underlying34 HPS.out ?_)
  |(go_at_call 43;refine (HFN.out _ HQ3.out).mono ?_;rintro e w4 ⟨fa,fc,rfl,i4,b4⟩;have HI4:=Za i4;have HQ4:=Za (Zb HQ3.out b4);have HB4:=Za (HB3.out.grow b4);clear b4 i4)
  |((with_reducible refine Zk 39 5 ?_);refine Zd _ rfl _ _ rfl b5 _ rfl HB4.out _ _ Tryz.underlying34 HPS.out ?_)
  |(go_at_call 44;refine (HSH.out _ _ _ HQ4.out HI4.out).mono ?_;rintro e w6 ⟨rfl,b6⟩;have HI6:Hid (_∧_):=⟨HI4.out.1,HI4.out.2.grow b6⟩;have HQ6:=Za (Zb HQ4.out b6);have HB6:=Za (HB4.out.grow b6);clear b6)
  |((with_reducible refine Zk 45 5 ?_);refine Zd _ rfl _ _ rfl b5 _ rfl HB6.out _ _ Tryz.underlying34 HPS.out ?_)
  |(go_at_call 51;refine (HBE.out _ _ _ HQ6.out HI6.out).mono ?_;rintro e w7 ⟨sa,sc,rfl,o7,b7⟩;have HO7:=Za (Zae o7 HQ6.out.size);have HI7:=Za (HI6.out.2.grow b7);have HQ7:=Za (Zb HQ6.out b7);have HB7:=Za (HB6.out.grow b7);clear o7 b7)
  |(go_at_call 52;refine (HCN.out _ _ _ _ _ HQ7.out HI7.out HO7.out).mono ?_;rintro e w8 ⟨rfl,b8⟩;have HO8:=Za (Zn HO7.out b8);have HQ8:=Za (Zb HQ7.out b8);have HB8:=Za (HB7.out.grow b8);clear b8;have HG8:=Za (Zh w8 (.cells #[.int .i64 fy] 3)))
  |(at_builtin;refine Zow _ rfl _ _ rfl w.heap.size _ 1 [f] rfl (HONE.out w8 HQ8.out.size) sa sn sc ss rfl (Zap (Zn HO8.out HG8.out)) (by have:=HSN.out;omega) (Nat.le_trans HQ8.out.size HG8.out.size) ?_;intro a9 c9 w9 o9 g9;have HO9:=Za (HNS.out _ _ _ _ _ o9);have HG9:=Za (Zal HG8.out (Zxi w8 w8.heap.size f fy HFY.out (Nat.le_refl _)) (Nat.le_refl _) g9);have HQ9:=Za (Zb HQ8.out HG9.out);have HB9:=Za (HB8.out.grow HG9.out);have HOS:=Za (Zn HO8.out HG9.out);clear o9 g9)
  |(go_at_call 53;have mk:=mk1;clear mk;refine (HH2.out _ _ HR7.out).mono ?_;rintro e w13 ⟨rfl,r8⟩;have HR8:=Za r8;clear r8)
  |(go_at_call 53;refine (HHA.out _ _ _ HQ9.out HO9.out).mono ?_;rintro e w10 ⟨rfl,r5⟩;have HR5:=Za r5;have HB10:=Za (HBK.out _ _ _ HQ9.out HG5.out HB9.out r5);clear r5;have mk1:Hid True:=trivial)
  |((with_reducible refine Zk 60 5 ?_);refine Zd _ rfl _ _ rfl b5 _ rfl HB10.out _ _ Tryz.underlying34 HPS.out ?_)
  |(go_at_call 54;refine (HRA.out _ _ _ _ HQ9.out HOS.out HR5.out).mono ?_;rintro e w11 ⟨top,rfl,r6⟩;have HR6:=Za r6;clear r6)
  |(go_at_call 55;refine (HDR.out _ _ HR6.out).mono ?_;rintro e w12 ⟨x7,y7,rfl,r7⟩;have HR7:=Za r7;clear r7))
 go_ret3;exact HPost.out _ _ HR8.out
def nN:Nat→Nat→List Ent→Nat
 | 0,_,l=>l.length
 | n+1,d,l=>if l.length≤1 then l.length else 1+(nN n (d+1) (sideOf l d 0)+nN n (d+1) (sideOf l d 1))
def Tre.hds:Nat→Tre→List Nat
 | _,.emp=>[]
 | h,.lf _ _=>[h]
 | h,.nd _ hl hr l r=>h::(l.hds hl++r.hds hr)
end Go.Proofs.YtgfdgjkbcdmboaaGreatDoor
